/- Plain facts: the speed behind a move, of a finite one from 0 on; nothing of the program is in here. -/
import Derived.Test.YtgdmbcfjjdngdaaDoorEr4
import Derived.Test.YtgdmbcfjjdngdaaDoorSd
set_option linter.unusedSimpArgs false
set_option linter.unusedVariables false
namespace Go.Proofs.YtgdmbcfjjdngdaaDoor
open Go.RowKit Go.Sort Ieee

theorem one_val : sgI 4607182418800017408 = (one1 : Int) := by rw [sgI_lo (by decide), ← one_def]
theorem up_val (e : Nat) (h : 4607182418800017408 + e * 4503599627370496 < 9218868437227405312) : sgI (4607182418800017408 + e * 4503599627370496) = ((one1 * 2 ^ e : Nat) : Int) := by
  rw [sgI_lo (by omega), valN_up (by decide) e, ← one_def]
/-- A whole number, as a word. -/
theorem foi_btw {S lo hi : Nat} (hl : fin lo) (hh : fin hi) (h1 : sgI lo ≤ (S : Int) * (one1 : Int)) (h2 : (S : Int) * (one1 : Int) ≤ sgI hi) :
    fin (floatOfInt .f64 (S : Int)) ∧ sgI lo ≤ sgI (floatOfInt .f64 (S : Int)) ∧ sgI (floatOfInt .f64 (S : Int)) ≤ sgI hi := by
  obtain ⟨K, e1, e2⟩ := one_pow
  have e := nearest_scale (decide ((S : Int) < 0)) S K 0
  have hP := Nat.two_pow_pos K
  have := rnd_btw ((S * 2 ^ K : Nat) : Int) (decide ((S : Int) < 0)) 0 lo hi (fun _ => by
    rw [decide_eq_false (by omega), decide_eq_false (by omega)]) hl hh (by rw [e1] at h1; simpa using h1) (by rw [e1] at h2; simpa using h2)
  rw [Int.natAbs_natCast, show (-1074 - ((0 : Nat) : Int)) = 0 - (K : Int) from by omega, e] at this
  exact this
theorem pn_lo {o y : Nat} (h : o ≤ y) : o ≤ y * 1208925819614629174706176 := Nat.le_trans h (Nat.le_mul_of_pos_right y (Nat.succ_pos _))
theorem pn_hi {o y : Nat} (h : y ≤ o * 73786976294838206464) : y ≤ o * 1208925819614629174706176 := Nat.le_trans h (Nat.mul_le_mul_left _ (Nat.le_of_ble_eq_true rfl))
theorem foi_pn {S : Nat} (h0 : 1 ≤ S) (h1 : S < 36893488147419103232) : ∃ v, Pn (floatOfInt .f64 (S : Int)) v ∧ v ≤ one1 * 73786976294838206464 := by
  have hh : fin (4607182418800017408 + 66 * 4503599627370496) := fin_lo (by decide)
  have eh := up_val 66 (by decide)
  rw [show (2 : Nat) ^ 66 = 73786976294838206464 from by decide] at eh
  have hP := one_pos
  obtain ⟨f1, f2, f3⟩ := foi_btw (S := S) (lo := 4607182418800017408) (hi := 4607182418800017408 + 66 * 4503599627370496) (fin_lo (by decide)) hh
    (by rw [one_val]; have : (1 : Int) * (one1 : Int) ≤ (S : Int) * (one1 : Int) := Int.mul_le_mul_of_nonneg_right (by omega) (by omega); omega)
    (by
      rw [eh]
      have : S * one1 ≤ one1 * 73786976294838206464 := by rw [Nat.mul_comm]; exact Nat.mul_le_mul_left _ (Nat.le_trans (Nat.le_of_lt h1) (Nat.le_of_ble_eq_true rfl))
      rw [← Int.natCast_mul]; omega)
  rw [one_val] at f2
  rw [eh] at f3
  have hle := foi_pos S
  generalize floatOfInt .f64 (S : Int) = z at *
  have hz : z < 9218868437227405312 := by have := f1.2; omega
  have hz2 : 4503599627370496 ≤ z := by
    apply Classical.byContradiction
    intro hc
    rw [sgI_lo (by omega)] at f2
    have h1 := valN_lt (r := z) (t := 4607182418800017408) (by omega)
    rw [← one_def] at h1
    omega
  rw [sgI_lo (by omega)] at f2 f3
  have f3' : valN z ≤ one1 * 73786976294838206464 := by omega
  have f2' : one1 ≤ valN z := by omega
  clear f2 f3
  refine ⟨valN z, ⟨hz2, hz, rfl, ?_, ?_⟩, f3'⟩
  · exact pn_lo f2'
  · exact pn_hi f3'
theorem nb_gen {N p q y : Nat} (hN : 2 ≤ N) (h1 : p * N ≤ y * (N + 5)) (h2 : 4 * y ≤ q) (h3 : q < p) : False := by
  have a1 : 4 * y * (N + 5) ≤ q * (N + 5) := Nat.mul_le_mul_right _ h2
  have a2 : q * (N + 5) ≤ p * (N + 5) := Nat.mul_le_mul_right _ (Nat.le_of_lt h3)
  have a3 : 4 * y * (N + 5) = 4 * (y * (N + 5)) := Nat.mul_assoc _ _ _
  have a4 : p * (N + 5) = p * N + p * 5 := Nat.mul_add _ _ _
  have a5 : p * 2 ≤ p * N := Nat.mul_le_mul_left _ hN
  rw [a4] at a2
  rw [a3] at a1
  generalize y * (N + 5) = z at *
  generalize q * (N + 5) = u at *
  generalize p * N = x at *
  omega
theorem nb_top {c v o : Nat} (h : Nb 5 (c * c) (v * o)) (hv : v ≤ o * 73786976294838206464) : c ≤ o * 17179869184 := by
  have h1 := h.l
  refine Nat.le_of_not_lt fun hc => ?_
  refine nb_gen (N := 9007199254740992) (q := (o * 17179869184) * (o * 17179869184)) (by decide) h1 ?_ (Nat.mul_lt_mul'' hc hc)
  have h4 : v * o ≤ o * 73786976294838206464 * o := Nat.mul_le_mul_right _ hv
  have h5 : 4 * (v * o) ≤ 4 * (o * 73786976294838206464 * o) := Nat.mul_le_mul_left _ h4
  have e : 4 * (o * 73786976294838206464 * o) = (o * 17179869184) * (o * 17179869184) := by
    rw [Nat.mul_mul_mul_comm, Nat.mul_right_comm, Nat.mul_comm 4, Nat.mul_assoc]
  rw [e] at h5
  exact h5
theorem ds_fin (dx dy : Int) (hx : in33 dx) (hy : in33 dy) : dsF dx dy < 9218868437227405312 ∧ valN (dsF dx dy) ≤ one1 * 17179869184 := by
  have l1 := sq_lt hx
  have l2 := sq_lt hy
  obtain ⟨hr, _⟩ := ds_root dx dy
  unfold sqT at hr
  generalize dsF dx dy = D at *
  rcases Nat.eq_zero_or_pos (dx.natAbs * dx.natAbs + dy.natAbs * dy.natAbs) with h | h
  · rw [h] at hr
    have : FloatKind.f64.format.sqrt (floatOfInt .f64 ((0 : Nat) : Int)) = some 0 := by decide
    rw [this] at hr
    cases hr
    exact ⟨by decide, by rw [valN_zero]; exact Nat.zero_le _⟩
  · obtain ⟨v, hv, hv2⟩ := foi_pn h (by omega)
    obtain ⟨c, hc, c1, c2, c3⟩ := sqrt_nb hv
    rw [hr] at hc
    cases hc
    exact ⟨c2, nb_top c3 hv2⟩
end Go.Proofs.YtgdmbcfjjdngdaaDoor
