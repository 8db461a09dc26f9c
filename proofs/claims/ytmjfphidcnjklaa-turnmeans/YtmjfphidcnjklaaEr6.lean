/- Plain facts on a length and the two quotients by it: the sum of their squares is 1, nearly; nothing of the program is in here. -/
import Derived.Test.YtmjfphidcnjklaaEr5
set_option linter.unusedSimpArgs false
namespace Go.Proofs.Ytmjfphidcnjklaa
open Ieee

theorem root_lo {M o l : Nat} (hN : 1 ≤ M) (h : M * o * o ≤ 2 * (l * l)) : o ≤ 2 * l := by
  apply Classical.byContradiction
  intro hc
  have h1 : (2 * l) * (2 * l) < o * o := Nat.mul_lt_mul'' (by omega) (by omega)
  have h2 : 1 * (o * o) ≤ M * (o * o) := Nat.mul_le_mul_right _ hN
  rw [Nat.mul_assoc] at h
  rw [Nat.mul_mul_mul_comm] at h1
  generalize M * (o * o) = x at *
  generalize o * o = y at *
  generalize l * l = z at *
  omega
theorem root_hi {M o l : Nat} (hN : M ≤ 36893488147419103232) (h : l * l ≤ 2 * (M * o * o)) : l ≤ 8589934592 * o := by
  apply Classical.byContradiction
  intro hc
  have h1 : (8589934592 * o) * (8589934592 * o) < l * l := Nat.mul_lt_mul'' (by omega) (by omega)
  have h2 : M * (o * o) ≤ 36893488147419103232 * (o * o) := Nat.mul_le_mul_right _ hN
  rw [Nat.mul_assoc] at h
  rw [Nat.mul_mul_mul_comm] at h1
  generalize M * (o * o) = x at *
  generalize o * o = y at *
  generalize l * l = z at *
  omega
theorem sum_mid {M o : Nat} (h0 : 1 ≤ M) (h1 : M ≤ 36893488147419103232) : o ≤ M * o * 604462909807314587353088 ∧ M * o ≤ o * 604462909807314587353088 := by
  have c : 1 * o ≤ M * o := Nat.mul_le_mul_right _ h0
  have d : M * o ≤ 36893488147419103232 * o := Nat.mul_le_mul_right _ h1
  generalize M * o = x at *
  exact ⟨by omega, by omega⟩
theorem sum_bd {D E : Nat} (hD : D ≤ 4294967296) (hE : E ≤ 4294967296) (h : 0 < D + E) : 1 ≤ D * D + E * E ∧ D * D + E * E ≤ 36893488147419103232 := by
  have a := Nat.mul_le_mul hD hD
  have b := Nat.mul_le_mul hE hE
  refine ⟨?_, by omega⟩
  rcases Nat.eq_zero_or_pos D with c | c
  · have := Nat.mul_pos (show 0 < E by omega) (show 0 < E by omega); omega
  · have := Nat.mul_pos c c; omega
theorem mid_l {o l : Nat} (h : o ≤ 2 * l) : o ≤ l * 1208925819614629174706176 := Nat.le_trans h (by rw [Nat.mul_comm]; exact Nat.mul_le_mul_left _ (by decide))
theorem mid_g {o l : Nat} (h : l ≤ 8589934592 * o) : l ≤ o * 1208925819614629174706176 := Nat.le_trans h (by rw [Nat.mul_comm]; exact Nat.mul_le_mul_left _ (by decide))
/-- The length of (a, b). -/
theorem len_pn {a b D E : Nat} (ha : Za a D) (hb : Za b E) (hD : D ≤ 4294967296) (hE : E ≤ 4294967296) (h : 0 < D + E) :
    ∃ x y s L, floatBits .mul .f64 a a = some x ∧ floatBits .mul .f64 b b = some y ∧ floatBits .add .f64 x y = some s ∧ FloatKind.f64.format.sqrt s = some L ∧ Pn L (valN L) ∧
      Nb 9 (valN L * valN L) ((D * D + E * E) * one1 * one1) ∧ one1 ≤ 2 * valN L ∧ valN L ≤ 8589934592 * one1 := by
  obtain ⟨x, hx, zx, nx⟩ := sq_za ha hD
  obtain ⟨y, hy, zy, ny⟩ := sq_za hb hE
  obtain ⟨b1, b2⟩ := sum_bd hD hE h
  have n2 : Nb 1 (valN x + valN y) ((D * D + E * E) * one1) := by rw [Nat.add_mul]; exact nx.add ny
  have o0 := one_gt
  have c1 : 1 * one1 ≤ (D * D + E * E) * one1 := Nat.mul_le_mul_right _ b1
  have pos : 0 < valN x + valN y := by
    have := (n2.two (by decide)).2
    generalize (D * D + E * E) * one1 = z at *
    generalize valN x + valN y = t at *
    generalize one1 = o at *
    omega
  obtain ⟨s, hs, s1, s2, ns⟩ := add_zn zx zy pos
  have n3 : Nb 3 (valN s) ((D * D + E * E) * one1) := ns.trans n2 (by decide)
  obtain ⟨m1, m2⟩ := sum_mid (o := one1) b1 b2
  have ps : Pn s (valN s) := Pn.of s1 s2 n3 (by decide) m1 m2
  obtain ⟨L, hL, L1, L2, nL⟩ := sqrt_nb ps
  have n9 : Nb 9 (valN L * valN L) ((D * D + E * E) * one1 * one1) := nL.trans (n3.mulr one1) (by decide)
  obtain ⟨t1, t2⟩ := n9.two (by decide)
  have lo := root_lo b1 t2
  have hi := root_hi b2 t1
  exact ⟨x, y, s, L, hx, hy, hs, hL, ⟨L1, L2, rfl, mid_l lo, mid_g hi⟩, n9, lo, hi⟩
theorem quo_0 {L l : Nat} (h : Pn L l) : floatBits .quo .f64 0 L = some 0 := by
  obtain ⟨m, k, e, v, l1, g1, p1, q1⟩ := h.read
  have e0 : double.read 0 = .number false 0 (-1074) := by decide
  show Format.div double 0 L = _
  unfold Format.div
  rw [e0, e]
  simp only [Datum.quotient]
  rw [if_neg (by omega)]
  simp [Nat.zero_shiftLeft, Format.write, nearest_zero]
  decide
theorem quo_lo {D o q l : Nat} (hD : 0 < D) (o0 : 0 < o) (h : D * o * o ≤ 2 * (q * l)) (hl : l ≤ 8589934592 * o) : o ≤ 17179869184 * q := by
  have h1 : q * l ≤ q * (8589934592 * o) := Nat.mul_le_mul_left _ hl
  have h2 : 1 * o * o ≤ D * o * o := Nat.mul_le_mul_right _ (Nat.mul_le_mul_right _ hD)
  have h3 : o * o ≤ 17179869184 * q * o := by
    rw [Nat.one_mul] at h2
    rw [← Nat.mul_assoc, Nat.mul_comm q 8589934592] at h1
    have e : 17179869184 * q * o = 2 * (8589934592 * q * o) := by rw [Nat.mul_assoc 17179869184, Nat.mul_assoc 8589934592]; omega
    rw [e]
    exact Nat.le_trans h2 (Nat.le_trans h (Nat.mul_le_mul_left _ h1))
  exact Nat.le_of_mul_le_mul_right h3 o0
theorem quo_hi {D o q l : Nat} (hD : D ≤ 4294967296) (o0 : 0 < o) (h : q * l ≤ 2 * (D * o * o)) (hl : o ≤ 2 * l) : q ≤ 17179869184 * o := by
  have h1 : q * o ≤ q * (2 * l) := Nat.mul_le_mul_left _ hl
  have h2 : D * o * o ≤ 4294967296 * o * o := Nat.mul_le_mul_right _ (Nat.mul_le_mul_right _ hD)
  have h3 : q * o ≤ 17179869184 * o * o := by
    rw [Nat.mul_left_comm] at h1
    have e : 17179869184 * o * o = 2 * (2 * (4294967296 * o * o)) := by rw [Nat.mul_assoc 17179869184, Nat.mul_assoc 4294967296]; omega
    rw [e]
    exact Nat.le_trans h1 (Nat.mul_le_mul_left _ (Nat.le_trans h (Nat.mul_le_mul_left _ h2)))
  exact Nat.le_of_mul_le_mul_right h3 o0
theorem mid_l2 {o q : Nat} (h : o ≤ 17179869184 * q) : o ≤ q * 1208925819614629174706176 := Nat.le_trans h (by rw [Nat.mul_comm]; exact Nat.mul_le_mul_left _ (by decide))
theorem mid_g2 {o q : Nat} (h : q ≤ 17179869184 * o) : q ≤ o * 1208925819614629174706176 := Nat.le_trans h (by rw [Nat.mul_comm]; exact Nat.mul_le_mul_left _ (by decide))
/-- A quotient by that length. -/
theorem quo_za {a D L : Nat} (ha : Za a D) (hD : D ≤ 4294967296) (hL : Pn L (valN L)) (lo : one1 ≤ 2 * valN L) (hi : valN L ≤ 8589934592 * one1) :
    ∃ q, floatBits .quo .f64 a L = some q ∧ ((q = 0 ∧ D = 0) ∨ (0 < D ∧ Pn q (valN q) ∧ one1 ≤ 17179869184 * valN q ∧ valN q ≤ 17179869184 * one1)) ∧ Nb 3 (valN q * valN L) (D * one1 * one1) := by
  rcases ha with ⟨rfl, rfl⟩ | ⟨h0, ha⟩
  · refine ⟨0, quo_0 hL, .inl ⟨rfl, rfl⟩, ?_⟩
    rw [valN_zero, Nat.zero_mul, Nat.zero_mul, Nat.zero_mul]
    exact (Nb.refl 0).mono (by omega)
  · obtain ⟨q, hq, q1, q2, nq⟩ := quo_nb ha hL
    obtain ⟨t1, t2⟩ := nq.two (by decide)
    have l := quo_lo h0 one_gt t2 hi
    have g := quo_hi hD one_gt t1 lo
    exact ⟨q, hq, .inr ⟨h0, ⟨q1, q2, rfl, mid_l2 l, mid_g2 g⟩, l, g⟩, nq⟩
theorem sq_lo {o q s : Nat} (o0 : 0 < o) (h : q * q ≤ 2 * (s * o)) (l : o ≤ 17179869184 * q) : o ≤ s * 1208925819614629174706176 := by
  have h1 : o * o ≤ (17179869184 * q) * (17179869184 * q) := Nat.mul_le_mul l l
  rw [Nat.mul_mul_mul_comm] at h1
  have h2 : o * o ≤ (590295810358705651712 * s) * o := by
    rw [Nat.mul_assoc]
    generalize s * o = x at *
    generalize q * q = y at *
    generalize o * o = z at *
    omega
  have h3 := Nat.le_of_mul_le_mul_right h2 o0
  exact Nat.le_trans h3 (by rw [Nat.mul_comm]; exact Nat.mul_le_mul_left _ (by decide))
theorem sq_hi {o q s : Nat} (o0 : 0 < o) (h : s * o ≤ 2 * (q * q)) (g : q ≤ 17179869184 * o) : s ≤ o * 1208925819614629174706176 := by
  have h1 : q * q ≤ (17179869184 * o) * (17179869184 * o) := Nat.mul_le_mul g g
  rw [Nat.mul_mul_mul_comm] at h1
  have h2 : s * o ≤ (590295810358705651712 * o) * o := by
    rw [Nat.mul_assoc]
    generalize s * o = x at *
    generalize q * q = y at *
    generalize o * o = z at *
    omega
  have h3 := Nat.le_of_mul_le_mul_right h2 o0
  exact Nat.le_trans h3 (by rw [Nat.mul_comm]; exact Nat.mul_le_mul_left _ (by decide))
/-- Such a quotient's square. -/
theorem sq_q {D q : Nat} (h : (q = 0 ∧ D = 0) ∨ (0 < D ∧ Pn q (valN q) ∧ one1 ≤ 17179869184 * valN q ∧ valN q ≤ 17179869184 * one1)) :
    ∃ u, floatBits .mul .f64 q q = some u ∧ Zn u (valN u) ∧ (0 < D → 0 < valN u) ∧ Nb 1 (valN u * one1) (valN q * valN q) := by
  rcases h with ⟨rfl, rfl⟩ | ⟨h0, p, l, g⟩
  · refine ⟨0, mul_00, .inl ⟨rfl, valN_zero⟩, fun h => by omega, ?_⟩
    rw [valN_zero, Nat.zero_mul]
    exact (Nb.refl 0).mono (by omega)
  · obtain ⟨u, hu, u1, u2, nu⟩ := mul_nb p p
    obtain ⟨t1, t2⟩ := nu.two (by decide)
    have pu : Pn u (valN u) := ⟨u1, u2, rfl, sq_lo one_gt t2 l, sq_hi one_gt t1 g⟩
    exact ⟨u, hu, .inr ⟨pu.pos, pu⟩, fun _ => pu.pos, nu⟩
theorem four {d o : Nat} : d * o * o * (d * o * o) = d * d * (o * o * (o * o)) := by
  rw [Nat.mul_assoc d o o, Nat.mul_mul_mul_comm]
/-- The heading's length. -/
theorem long_nb {a b D E : Nat} (ha : Za a D) (hb : Za b E) (hD : D ≤ 4294967296) (hE : E ≤ 4294967296) (h : 0 < D + E) :
    ∃ x y s L p q u v g, floatBits .mul .f64 a a = some x ∧ floatBits .mul .f64 b b = some y ∧ floatBits .add .f64 x y = some s ∧ FloatKind.f64.format.sqrt s = some L ∧ Pn L (valN L) ∧
      floatBits .quo .f64 a L = some p ∧ floatBits .quo .f64 b L = some q ∧ ((p = 0 ∧ D = 0) ∨ (0 < D ∧ Pn p (valN p))) ∧ ((q = 0 ∧ E = 0) ∨ (0 < E ∧ Pn q (valN q))) ∧
      Nb 3 (valN p * valN L) (D * one1 * one1) ∧ Nb 3 (valN q * valN L) (E * one1 * one1) ∧
      floatBits .mul .f64 p p = some u ∧ floatBits .mul .f64 q q = some v ∧ floatBits .add .f64 u v = some g ∧ 4503599627370496 ≤ g ∧ g < 9218868437227405312 ∧ Nb 21 (valN g) one1 := by
  obtain ⟨x, y, s, L, hx, hy, hs, hL, pL, n9, lo, hi⟩ := len_pn ha hb hD hE h
  obtain ⟨p, hp, zp, np⟩ := quo_za ha hD pL lo hi
  obtain ⟨q, hq, zq, nq⟩ := quo_za hb hE pL lo hi
  obtain ⟨u, hu, zu, pu, nu⟩ := sq_q zp
  obtain ⟨v, hv, zv, pv, nv⟩ := sq_q zq
  have pos : 0 < valN u + valN v := by
    rcases Nat.eq_zero_or_pos D with c | c
    · have := pv (by omega); omega
    · have := pu c; omega
  obtain ⟨g, hg, g1, g2, ng⟩ := add_zn zu zv pos
  refine ⟨x, y, s, L, p, q, u, v, g, hx, hy, hs, hL, pL, hp, hq, ?_, ?_, np, nq, hu, hv, hg, g1, g2, ?_⟩
  · rcases zp with z | ⟨z1, z2, _⟩
    · exact .inl z
    · exact .inr ⟨z1, z2⟩
  · rcases zq with z | ⟨z1, z2, _⟩
    · exact .inl z
    · exact .inr ⟨z1, z2⟩
  · have l0 := pL.pos
    have o0 := one_gt
    generalize valN g = G at *
    generalize valN u = U at *
    generalize valN v = W at *
    generalize valN p = P at *
    generalize valN q = Q at *
    generalize valN L = l at *
    generalize one1 = o at *
    have a1 : Nb 1 (U * o + W * o) (P * P + Q * Q) := nu.add nv
    have a2 : Nb 3 (G * o) (P * P + Q * Q) := by
      have := ng.mulr o
      rw [Nat.add_mul] at this
      exact this.trans a1 (by decide)
    have b1 : Nb 7 (P * l * (P * l)) (D * D * (o * o * (o * o))) := by
      have := np.mul np (by decide)
      rw [four] at this
      exact this
    have b2 : Nb 7 (Q * l * (Q * l)) (E * E * (o * o * (o * o))) := by
      have := nq.mul nq (by decide)
      rw [four] at this
      exact this
    have b3 : Nb 7 ((P * P + Q * Q) * (l * l)) ((D * D + E * E) * (o * o * (o * o))) := by
      have := b1.add b2
      rw [Nat.mul_mul_mul_comm, Nat.mul_mul_mul_comm Q, ← Nat.add_mul, ← Nat.add_mul] at this
      exact this
    have b4 : Nb 11 (G * o * (l * l)) ((D * D + E * E) * (o * o * (o * o))) := (a2.mulr (l * l)).trans b3 (by decide)
    have b5 : Nb 9 (l * l * (o * o)) ((D * D + E * E) * (o * o * (o * o))) := by
      have := n9.mulr (o * o)
      rw [Nat.mul_assoc _ o o, Nat.mul_assoc _ (o * o)] at this
      exact this
    have b6 : Nb 21 (G * o * (l * l)) (l * l * (o * o)) := b4.trans b5.symm (by decide)
    have e1 : G * o * (l * l) = G * (o * (l * l)) := Nat.mul_assoc _ _ _
    have e2 : l * l * (o * o) = o * (o * (l * l)) := by rw [← Nat.mul_assoc, Nat.mul_comm, Nat.mul_comm (l * l) o]
    rw [e1, e2] at b6
    exact b6.cancel (Nat.mul_pos o0 (Nat.mul_pos l0 l0))
end Go.Proofs.Ytmjfphidcnjklaa
