/- Plain facts on headings, all together; nothing of the program is in here. -/
import Derived.Test.YtmjfphidcnjklaaHq
import Derived.Test.YtmjfphidcnjklaaF4
set_option linter.unusedSimpArgs false
namespace Go.Proofs.Ytmjfphidcnjklaa
open Ieee

theorem word_lt {q : Nat} (h : q < 9218868437227405312) (s : Bool) : double.word s q < 18446744073709551616 ∧ ¬ isN (double.word s q) := by
  have W : double.word s q = if s then q + 9223372036854775808 else q := by unfold Format.word; rw [dbl_sw]; cases s <;> simp <;> omega
  rw [W]
  unfold isN
  cases s <;> simp <;> omega
theorem zq_val {q D : Nat} (h : (q = 0 ∧ D = 0) ∨ (0 < D ∧ Pn q (valN q))) : q < 9218868437227405312 ∧ (0 < valN q ↔ 0 < D) := by
  rcases h with ⟨rfl, rfl⟩ | ⟨h, p⟩
  · exact ⟨by decide, by rw [valN_zero]⟩
  · exact ⟨p.hi, fun _ => h, fun _ => p.pos⟩
theorem za_val {a D : Nat} (h : Za a D) : valN a = D * one1 := by
  rcases h with ⟨rfl, rfl⟩ | ⟨_, p⟩
  · rw [valN_zero, Nat.zero_mul]
  · exact p.e
theorem mul_lt_iff' {D E o : Nat} (o0 : 0 < o) : D * o < E * o ↔ D < E := ⟨fun h => Nat.lt_of_mul_lt_mul_right h, fun h => Nat.mul_lt_mul_of_pos_right h o0⟩
theorem sg_abs (s : Bool) (v : Nat) : (if s then -(v : Int) else (v : Int)).natAbs = v := by cases s <;> simp
theorem sg_pos (n : Int) {v : Nat} (h : 0 < v ↔ 0 < n.natAbs) : (0 < (if decide (n < 0) then -(v : Int) else (v : Int)) ↔ 0 < n) ∧ ((if decide (n < 0) then -(v : Int) else (v : Int)) < 0 ↔ n < 0) := by
  by_cases c : n < 0
  · rw [decide_eq_true c]; simp only [if_true]; omega
  · rw [decide_eq_false c]; simp only [Bool.false_eq_true, if_false]; omega
theorem sgI_low {b : Nat} (h : b < 9223372036854775808) : sgI b = (valN b : Int) := by unfold sgI; rw [if_pos h]
theorem leq_small2 {c k : Nat} (fc : fin c) (hk : k < 9218868437227405312) (bc : (sgI c).natAbs ≤ valN k) : (FloatKind.f64.format.order (c % 9223372036854775808) k == some .lt || FloatKind.f64.format.order (c % 9223372036854775808) k == some .eq) = true := by
  have hc1 := fc.1
  have hc2 := fc.2
  show (double.order (c % 9223372036854775808) k == some .lt || double.order (c % 9223372036854775808) k == some .eq) = true
  have n1 : ¬ isN (c % 9223372036854775808) := by unfold isN; omega
  have nc : ¬ isN c := by unfold isN; omega
  have n2 : ¬ isN k := by unfold isN; omega
  rw [leq_key (by omega) (by omega)]
  refine decide_eq_true ⟨n1, n2, ?_⟩
  rw [key_num n1, key_num n2]
  have e1 : sgI (c % 9223372036854775808) = ((sgI c).natAbs : Int) := by
    unfold sgI
    rw [if_pos (by omega)]
    by_cases kk : c < 9223372036854775808
    · rw [if_pos kk, show c % 9223372036854775808 = c from by omega, Int.natAbs_natCast]
    · rw [if_neg kk, show c % 9223372036854775808 = c - 9223372036854775808 from by omega, Int.natAbs_neg, Int.natAbs_natCast]
  have e2 : sgI k = (valN k : Int) := sgI_low (by omega)
  rw [e1, e2]
  clear e1 e2 n1 nc n2
  generalize valN k = v at bc ⊢
  generalize (sgI c).natAbs = u at bc ⊢
  omega
theorem leq_small {c : Nat} (fc : fin c) (bc : (sgI c).natAbs ≤ valN 4391009636686233600) : (FloatKind.f64.format.order (c % 9223372036854775808) 4391009636686233600 == some .lt || FloatKind.f64.format.order (c % 9223372036854775808) 4391009636686233600 == some .eq) = true :=
  leq_small2 fc (by decide) bc
/-- Of two whole numbers that are not both 0: their length, the quotients by it, their sector, the length of the heading. -/
theorem heads_plain {m n : Int} (hm : m.natAbs ≤ 4294967296) (hn : n.natAbs ≤ 4294967296) (h : ¬ (m = 0 ∧ n = 0)) :
    ∃ x y s L p q u v g c, floatBits .mul .f64 (fi' m) (fi' m) = some x ∧ floatBits .mul .f64 (fi' n) (fi' n) = some y ∧ floatBits .add .f64 x y = some s ∧ FloatKind.f64.format.sqrt s = some L ∧
      floatBits .quo .f64 (fi' m) L = some p ∧ floatBits .quo .f64 (fi' n) L = some q ∧ floatBits .mul .f64 p p = some u ∧ floatBits .mul .f64 q q = some v ∧ floatBits .add .f64 u v = some g ∧
      floatBits .sub .f64 g 4607182418800017408 = some c ∧ (p < 18446744073709551616 ∧ ¬ isN p) ∧ (q < 18446744073709551616 ∧ ¬ isN q) ∧ L < 18446744073709551616 ∧ secF p q = secF (fi' m) (fi' n) ∧ c < 18446744073709551616 ∧
      (FloatKind.f64.format.order (c % 9223372036854775808) 4391009636686233600 == some .lt || FloatKind.f64.format.order (c % 9223372036854775808) 4391009636686233600 == some .eq) = true := by
  obtain ⟨za, la⟩ := fi_za hm
  obtain ⟨zb, lb⟩ := fi_za hn
  obtain ⟨x, y, s, L, p, q, u, v, g, hx, hy, hs, hL, pL, hp, hq, zp, zq, np, nq, hu, hv, hg, g1, g2, ng⟩ := long_nb za zb hm hn (by omega)
  obtain ⟨c, hc, fc, bc⟩ := near_one g1 g2 ng
  obtain ⟨lp, ip⟩ := zq_val zp
  obtain ⟨lq, iq⟩ := zq_val zq
  obtain ⟨wp1, wp2⟩ := word_lt lp (decide (m < 0))
  obtain ⟨wq1, wq2⟩ := word_lt lq (decide (n < 0))
  obtain ⟨wm1, wm2⟩ := word_lt la (decide (m < 0))
  obtain ⟨wn1, wn2⟩ := word_lt lb (decide (n < 0))
  refine ⟨x, y, s, L, double.word (decide (m < 0)) p, double.word (decide (n < 0)) q, u, v, g, c, ?_, ?_, hs, hL, ?_, ?_, ?_, ?_, hg, hc, ⟨wp1, wp2⟩, ⟨wq1, wq2⟩, by have := pL.hi; omega, ?_, fc.1, ?_⟩
  · rw [fi_word, mul_ss la]; exact hx
  · rw [fi_word n, mul_ss lb]; exact hy
  · rw [fi_word]; exact quo_s la pL _ hp
  · rw [fi_word n]; exact quo_s lb pL _ hq
  · rw [mul_ss lp]; exact hu
  · rw [mul_ss lq]; exact hv
  · rw [fi_word m, fi_word n]
    unfold secF
    rw [if_neg (fun k => k.elim wp2 wq2), if_neg (fun k => k.elim wm2 wn2), sgI_word lp, sgI_word lq, sgI_word la, sgI_word lb, za_val za, za_val zb]

    have o0 := one_gt
    have m1 : 0 < m.natAbs * one1 ↔ 0 < m.natAbs := ⟨fun k => Nat.pos_of_mul_pos_right k, fun k => Nat.mul_pos k o0⟩
    have n1 : 0 < n.natAbs * one1 ↔ 0 < n.natAbs := ⟨fun k => Nat.pos_of_mul_pos_right k, fun k => Nat.mul_pos k o0⟩
    have a1 := sg_pos m ip
    have a2 := sg_pos m m1
    have b1 := sg_pos n iq
    have b2 := sg_pos n n1
    have lt1 : valN p < valN q ↔ m.natAbs < n.natAbs := by
      constructor
      · intro k
        apply Classical.byContradiction
        intro c
        rcases Nat.lt_or_ge n.natAbs m.natAbs with c' | c'
        · have := q_lt hn o0 nq np c'; omega
        · have e : m.natAbs = n.natAbs := by omega
          rw [e, hq] at hp
          cases hp
          omega
      · exact q_lt hm o0 np nq
    have lt2 : valN q < valN p ↔ n.natAbs < m.natAbs := by
      constructor
      · intro k
        apply Classical.byContradiction
        intro c
        rcases Nat.lt_or_ge m.natAbs n.natAbs with c' | c'
        · have := q_lt hm o0 np nq c'; omega
        · have e : m.natAbs = n.natAbs := by omega
          rw [e, hq] at hp
          cases hp
          omega
      · exact q_lt hn o0 nq np
    refine secI_like ⟨a1.1.trans a2.1.symm, a1.2.trans a2.2.symm⟩ ⟨b1.1.trans b2.1.symm, b1.2.trans b2.2.symm⟩ ?_ ?_
    · rw [sg_abs, sg_abs, sg_abs, sg_abs, mul_lt_iff' o0]; exact lt1
    · rw [sg_abs, sg_abs, sg_abs, sg_abs, mul_lt_iff' o0]; exact lt2
  · exact leq_small fc bc
end Go.Proofs.Ytmjfphidcnjklaa
