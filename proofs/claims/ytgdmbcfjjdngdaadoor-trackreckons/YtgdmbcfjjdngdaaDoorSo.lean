/- Plain facts: quotients of speeds; the speed behind a move of a finite one from 0 on; nothing of the program is in here. -/
import Derived.Test.YtgdmbcfjjdngdaaDoorSn
set_option linter.unusedSimpArgs false
set_option linter.unusedVariables false
namespace Go.Proofs.YtgdmbcfjjdngdaaDoor
open Go.RowKit Go.Sort Ieee

theorem read_lo {b : Nat} (h : b < 9218868437227405312) : ∃ m k : Nat, double.read b = .number false m ((k : Int) - 1074) ∧ m * 2 ^ k = valN b := by
  obtain ⟨m, k, e1, e2⟩ := read_fin (fin_lo h)
  rw [decide_eq_false (by omega)] at e1
  rw [Nat.mod_eq_of_lt (by omega)] at e2
  exact ⟨m, k, e1, e2⟩
theorem quo_big {m n : Nat} (hm : 0 < m) (hn : 0 < n) : 1 ≤ m * 2 ^ (54 + n.log2 - m.log2) / n := by
  rw [Nat.le_div_iff_mul_le hn, Nat.one_mul]
  have h1 : 2 ^ m.log2 ≤ m := Nat.log2_self_le (by omega)
  have h2 : n < 2 ^ (n.log2 + 1) := Nat.lt_log2_self
  have h3 : 2 ^ m.log2 * 2 ^ (54 + n.log2 - m.log2) ≤ m * 2 ^ (54 + n.log2 - m.log2) := Nat.mul_le_mul_right _ h1
  rw [← Nat.pow_add] at h3
  have h4 : 2 ^ (n.log2 + 1) ≤ 2 ^ (m.log2 + (54 + n.log2 - m.log2)) := Nat.pow_le_pow_right (by omega) (by omega)
  exact Nat.le_trans (Nat.le_of_lt h2) (Nat.le_trans h4 h3)
theorem quo_le2 {a b H : Nat} (ha : a < 9218868437227405312) (hb : b < 9218868437227405312) (hb0 : 0 < valN b) (hH : H < 9218868437227405312) (h : 2 * (valN a * one1) ≤ valN H * valN b) :
    ∃ c, floatBits .quo .f64 a b = some c ∧ c ≤ H := by
  obtain ⟨m, k, e1, v1⟩ := read_lo ha
  obtain ⟨n, l, e2, v2⟩ := read_lo hb
  obtain ⟨K, o1, o2⟩ := one_pow
  have hn : n ≠ 0 := fun e => by rw [e, Nat.zero_mul] at v2; omega
  show ∃ c, Format.div double a b = some c ∧ _
  unfold Format.div
  rw [e1, e2]
  simp only [Datum.quotient, if_neg hn, Option.map_some, Format.write, dbl_frac, Bool.bne_false, Bool.xor_false]
  generalize hmo : 52 + 2 + n.log2 - m.log2 = more
  rw [Nat.shiftLeft_eq]
  obtain ⟨Q, hQ⟩ : ∃ Q, Q = 2 * (m * 2 ^ more / n) + (m * 2 ^ more % n != 0).toNat := ⟨_, rfl⟩
  rw [← hQ]
  have e := nearest_scale false Q (k + K) ((k : Int) - 1074 - ((l : Int) - 1074) - (more : Int) - 1)
  have key : Q * 2 ^ (k + K) ≤ valN H * 2 ^ (l + more + 1) := by
    have hQn : Q * n ≤ 4 * (m * 2 ^ more) := by
      rcases Nat.eq_zero_or_pos m with h0 | h0
      · rw [hQ, h0]; simp
      · have hq : 1 ≤ m * 2 ^ more / n := by rw [← hmo]; exact quo_big h0 (by omega)
        have hd := Nat.div_mul_le_self (m * 2 ^ more) n
        have hb : (m * 2 ^ more % n != 0).toNat ≤ 1 := Bool.toNat_le _
        have h5 : Q ≤ 4 * (m * 2 ^ more / n) := by omega
        have h6 : Q * n ≤ 4 * (m * 2 ^ more / n) * n := Nat.mul_le_mul_right _ h5
        rw [Nat.mul_assoc] at h6
        exact Nat.le_trans h6 (Nat.mul_le_mul_left _ hd)
    refine Nat.le_of_mul_le_mul_right (c := n) ?_ (by omega)
    have t1 : Q * 2 ^ (k + K) * n ≤ 4 * (m * 2 ^ more) * 2 ^ (k + K) := by
      rw [Nat.mul_right_comm]; exact Nat.mul_le_mul_right _ hQn
    have t2 : 4 * (m * 2 ^ more) * 2 ^ (k + K) = 2 * (2 * (valN a * one1)) * 2 ^ more := by
      rw [← v1, o1, Nat.pow_add, show (4 : Nat) = 2 * 2 from rfl]
      simp only [Nat.mul_assoc, Nat.mul_comm, Nat.mul_left_comm]
    have t3 : valN H * 2 ^ (l + more + 1) * n = 2 * (valN H * valN b) * 2 ^ more := by
      rw [← v2, Nat.pow_add, Nat.pow_add, Nat.pow_one]
      simp only [Nat.mul_assoc, Nat.mul_comm, Nat.mul_left_comm]
    rw [t3]
    rw [t2] at t1
    exact Nat.le_trans t1 (Nat.mul_le_mul_right _ (Nat.mul_le_mul_left _ h))
  obtain ⟨R, hR, e3⟩ := nearest_le false (Q * 2 ^ (k + K)) (l + more + 1) H hH key
  rw [show (-1074 - ((l + more + 1 : Nat) : Int)) = (k : Int) - 1074 - ((l : Int) - 1074) - (more : Int) - 1 - ((k + K : Nat) : Int) from by omega, e] at e3
  refine ⟨R, ?_, hR⟩
  rw [e3]
  unfold Format.word
  simp
theorem grow8 {A B d M n : Nat} (hA : A = B + d) (hd : M * d ≤ 8 * B) (hn : n ≤ M) : n * A ≤ (n + 8) * B := by
  rw [hA, Nat.mul_add, Nat.add_mul]
  exact Nat.add_le_add_left (Nat.le_trans (Nat.mul_le_mul_right _ hn) hd) _
/-- The weight of n ticks. -/
theorem weight_ok {n : Nat} (h0 : 1 ≤ n) (h1 : n < 4294967296) : ∃ w, floatBits .quo .f64 (floatOfInt .f64 (n : Int)) (floatOfInt .f64 ((n + 8 : Nat) : Int)) = some w ∧ fin w ∧ 0 ≤ sgI w ∧ sgI w ≤ (valN 4607182418791628800 : Int) := by
  have fl : ∀ m : Nat, 1 ≤ m → m < 8589934592 → Pn (floatOfInt .f64 (m : Int)) (m * one1) := fun m g0 g1 => by
    obtain ⟨v, hv, _⟩ := foi_pn g0 (by omega)
    have hf := Fl.ofInt (n := (m : Int)) (by omega)
    have e := hf.2
    rw [sgI_lo (by have := hv.hi; omega), hv.e, ← Int.natCast_mul] at e
    rw [← Int.natCast_inj.1 e]
    exact hv
  have p1 := fl n h0 (by omega)
  have p2 := fl (n + 8) (by omega) (by omega)
  obtain ⟨w, hw, w1, w2, nb⟩ := quo_nb p1 p2
  refine ⟨w, hw, fin_lo w2, by rw [sgI_lo (by omega)]; omega, ?_⟩
  rw [sgI_lo (by omega)]
  have hl := nb.l
  obtain ⟨P, hP, q1, q2⟩ := under_one
  rw [q2]
  have ho := one_pos
  refine Int.ofNat_le.2 ?_
  have key : valN w * (n + 8) * 9007199254740992 ≤ n * one1 * 9007199254740995 := by
    refine Nat.le_of_mul_le_mul_right (c := one1) ?_ ho
    have e1 : valN w * (n + 8) * 9007199254740992 * one1 = valN w * ((n + 8) * one1) * 9007199254740992 := by simp only [Nat.mul_assoc, Nat.mul_comm, Nat.mul_left_comm]
    have e2 : n * one1 * 9007199254740995 * one1 = n * one1 * one1 * (9007199254740992 + 3) := by simp only [Nat.mul_assoc, Nat.mul_comm, Nat.mul_left_comm]
    rw [e1, e2]
    exact hl
  rw [q1] at key
  refine Nat.le_of_mul_le_mul_right (c := (n + 8) * 9007199254740992) ?_ (Nat.mul_pos (by omega) (by decide))
  refine Nat.le_trans (m := n * (1073741824 * P) * 9007199254740995) ?_ ?_
  · rw [← Nat.mul_assoc]; exact key
  · have e3 : n * (1073741824 * P) * 9007199254740995 = n * (1073741824 * 9007199254740995) * P := by simp only [Nat.mul_assoc, Nat.mul_comm, Nat.mul_left_comm]
    have e4 : 1073741823 * P * ((n + 8) * 9007199254740992) = (n + 8) * (1073741823 * 9007199254740992) * P := by simp only [Nat.mul_assoc, Nat.mul_comm, Nat.mul_left_comm]
    rw [e3, e4]
    refine Nat.mul_le_mul_right _ ?_
    exact grow8 (d := 9007202475966464) (M := 4294967296) (by decide) (by decide) (by omega)
theorem foi_val {n : Nat} (h0 : 1 ≤ n) (h1 : n < 4294967296) : floatOfInt .f64 (n : Int) < 9218868437227405312 ∧ valN (floatOfInt .f64 (n : Int)) = n * one1 := by
  obtain ⟨v, hv, _⟩ := foi_pn h0 (by omega)
  have hf := Fl.ofInt (n := (n : Int)) (by omega)
  have e := hf.2
  rw [sgI_lo (by have := hv.hi; omega), hv.e, ← Int.natCast_mul] at e
  exact ⟨hv.hi, by rw [hv.e]; exact Int.natCast_inj.1 e⟩
theorem v_ok {D n : Nat} (hD : D < 9218868437227405312) (hD2 : valN D ≤ one1 * 17179869184) (h0 : 1 ≤ n) (h1 : n < 4294967296) :
    ∃ v, floatBits .quo .f64 D (floatOfInt .f64 (n : Int)) = some v ∧ v < 9218868437227405312 ∧ (D = 0 → v = 0) := by
  obtain ⟨b1, b2⟩ := foi_val h0 h1
  have ho := one_pos
  have hb0 : 0 < valN (floatOfInt .f64 (n : Int)) := by rw [b2]; exact Nat.mul_pos (by omega) ho
  by_cases c : D = 0
  · obtain ⟨v, h, hv⟩ := quo_le2 (H := 0) hD b1 hb0 (by decide) (by rw [c, valN_zero]; simp)
    exact ⟨v, h, by omega, fun _ => by omega⟩
  · have hH : valN (4607182418800017408 + 36 * 4503599627370496) = one1 * 2 ^ 36 := by rw [valN_up (by decide) 36, ← one_def]
    obtain ⟨v, h, hv⟩ := quo_le2 (H := 4607182418800017408 + 36 * 4503599627370496) hD b1 hb0 (by decide) (by
      rw [b2, hH]
      have t1 : 2 * (valN D * one1) ≤ 2 * (one1 * 17179869184 * one1) := Nat.mul_le_mul_left _ (Nat.mul_le_mul_right _ hD2)
      have t2 : 2 * (one1 * 17179869184 * one1) = one1 * one1 * 34359738368 := by
        rw [Nat.mul_right_comm one1 17179869184 one1, Nat.mul_comm 2, Nat.mul_assoc (one1 * one1)]
      have t3 : one1 * one1 * 34359738368 ≤ one1 * one1 * (2 ^ 36 * n) := Nat.mul_le_mul_left _ (Nat.le_trans (show 34359738368 ≤ 2 ^ 36 * 1 by decide) (Nat.mul_le_mul_left _ h0))
      have t4 : one1 * one1 * (2 ^ 36 * n) = one1 * 2 ^ 36 * (n * one1) := by simp only [Nat.mul_assoc, Nat.mul_comm, Nat.mul_left_comm]
      rw [t2] at t1
      rw [t4] at t3
      exact Nat.le_trans t1 t3)
    exact ⟨v, h, Nat.lt_of_le_of_lt hv (by decide), fun e => absurd e c⟩
/-- The speed behind a move: finite, from 0 on, not above both. -/
theorem speed_ok {o D n : Nat} (ho : fin o) (o0 : 0 ≤ sgI o) (hD : D < 9218868437227405312) (hD2 : valN D ≤ one1 * 17179869184) (h0 : 1 ≤ n) (h1 : n < 4294967296) :
    fo .quo D (floatOfInt .f64 (n : Int)) < 9218868437227405312 ∧ (D = 0 → fo .quo D (floatOfInt .f64 (n : Int)) = 0) ∧ fin (spN o D n) ∧ 0 ≤ sgI (spN o D n) ∧ sgI (spN o D n) ≤ max (sgI o) (sgI (fo .quo D (floatOfInt .f64 (n : Int)))) := by
  obtain ⟨v, hv, hv1, hv2⟩ := v_ok hD hD2 h0 h1
  obtain ⟨w, hw, w1, w2, w3⟩ := weight_ok h0 h1
  have e1 : fo .quo D (floatOfInt .f64 (n : Int)) = v := by unfold fo; rw [hv]; rfl
  have e2 : fo .quo (floatOfInt .f64 (n : Int)) (floatOfInt .f64 ((n + 8 : Nat) : Int)) = w := by unfold fo; rw [hw]; rfl
  obtain ⟨d, e, s, q1, q2, q3, q4, q5, q6⟩ := speed_btw ho (fin_lo hv1) w1 o0 (by rw [sgI_lo (by omega)]; omega) w2 w3
  have e3 : spN o D n = s := by
    unfold spN
    rw [e1, e2, show fo .sub v o = d from by unfold fo; rw [q1]; rfl, show fo .mul w d = e from by unfold fo; rw [q2]; rfl]
    unfold fo
    rw [q3]; rfl
  rw [e1, e3]
  exact ⟨hv1, hv2, q4, q5, q6⟩
end Go.Proofs.YtgdmbcfjjdngdaaDoor
