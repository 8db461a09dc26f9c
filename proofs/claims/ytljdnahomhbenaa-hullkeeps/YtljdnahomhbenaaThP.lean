/- Plain: how far a point is off a segment, as the program reckons it (its square, times the square of the segment's length). -/
import Derived.Test.YtljdnahomhbenaaHf
namespace Go.Proofs.Ytljdnahomhbenaa
open Go.RowKit Go.Sort

def latP (p : Int × Int) : Prop := (-1073741823 ≤ p.1 ∧ p.1 ≤ 1073741823) ∧ (-1073741823 ≤ p.2 ∧ p.2 ≤ 1073741823)
theorem latP.in2 {p : Int × Int} (h : latP p) : in2 p := by unfold latP at h; exact ⟨⟨by omega, by omega⟩, ⟨by omega, by omega⟩⟩
def d2 (a b : Int × Int) : Int := (b.1 - a.1) * (b.1 - a.1) + (b.2 - a.2) * (b.2 - a.2)
def al (a b p : Int × Int) : Int := (b.1 - a.1) * (p.1 - a.1) + (b.2 - a.2) * (p.2 - a.2)
def scl (a b : Int × Int) : Int := if d2 a b ≤ 1 then 1 else d2 a b
def offI (a b p : Int × Int) : Int := if al a b p ≤ 0 then d2 a p * scl a b else if scl a b ≤ al a b p then d2 b p * scl a b else cr a b p * cr a b p

theorem prod_bd {x y : Int} (hx : -2147483646 ≤ x) (hx' : x ≤ 2147483646) (hy : -2147483646 ≤ y) (hy' : y ≤ 2147483646) : -4611686009837453316 ≤ x * y ∧ x * y ≤ 4611686009837453316 := by
  have a1 := Int.mul_nonneg (show 0 ≤ 2147483646 - x by omega) (show 0 ≤ 2147483646 - y by omega)
  have a2 := Int.mul_nonneg (show 0 ≤ 2147483646 + x by omega) (show 0 ≤ 2147483646 + y by omega)
  have a3 := Int.mul_nonneg (show 0 ≤ 2147483646 - x by omega) (show 0 ≤ 2147483646 + y by omega)
  have a4 := Int.mul_nonneg (show 0 ≤ 2147483646 + x by omega) (show 0 ≤ 2147483646 - y by omega)
  have e1 : (2147483646 - x) * (2147483646 - y) = 4611686009837453316 - 2147483646 * x - 2147483646 * y + x * y := by grind
  have e2 : (2147483646 + x) * (2147483646 + y) = 4611686009837453316 + 2147483646 * x + 2147483646 * y + x * y := by grind
  have e3 : (2147483646 - x) * (2147483646 + y) = 4611686009837453316 - 2147483646 * x + 2147483646 * y - x * y := by grind
  have e4 : (2147483646 + x) * (2147483646 - y) = 4611686009837453316 + 2147483646 * x - 2147483646 * y - x * y := by grind
  generalize x * y = z at *
  omega
theorem sum_bd {a b c p : Int × Int} (ha : latP a) (hb : latP b) (hc : latP c) (hp : latP p) : -9223372019674906632 ≤ (b.1 - a.1) * (p.1 - c.1) + (b.2 - a.2) * (p.2 - c.2) ∧ (b.1 - a.1) * (p.1 - c.1) + (b.2 - a.2) * (p.2 - c.2) ≤ 9223372019674906632 := by
  unfold latP at *
  have h1 := prod_bd (x := b.1 - a.1) (y := p.1 - c.1) (by omega) (by omega) (by omega) (by omega)
  have h2 := prod_bd (x := b.2 - a.2) (y := p.2 - c.2) (by omega) (by omega) (by omega) (by omega)
  omega
theorem d2_bd {a b : Int × Int} (ha : latP a) (hb : latP b) : 0 ≤ d2 a b ∧ d2 a b ≤ 9223372019674906632 := by
  have h := (sum_bd ha hb ha hb).2
  refine ⟨?_, h⟩
  unfold d2
  have h1 : 0 ≤ (b.1 - a.1) * (b.1 - a.1) := by
    rcases Int.le_total 0 (b.1 - a.1) with h | h
    · exact Int.mul_nonneg h h
    · exact Int.mul_nonneg_of_nonpos_of_nonpos h h
  have h2 : 0 ≤ (b.2 - a.2) * (b.2 - a.2) := by
    rcases Int.le_total 0 (b.2 - a.2) with h | h
    · exact Int.mul_nonneg h h
    · exact Int.mul_nonneg_of_nonpos_of_nonpos h h
  omega
theorem al_bd {a b p : Int × Int} (ha : latP a) (hb : latP b) (hp : latP p) : -9223372019674906632 ≤ al a b p ∧ al a b p ≤ 9223372019674906632 := sum_bd ha hb ha hp
theorem cr_bd {a b p : Int × Int} (ha : latP a) (hb : latP b) (hp : latP p) : -9223372019674906632 ≤ cr a b p ∧ cr a b p ≤ 9223372019674906632 := by
  unfold latP at *
  have h1 := prod_bd (x := b.1 - a.1) (y := p.2 - a.2) (by omega) (by omega) (by omega) (by omega)
  have h2 := prod_bd (x := b.2 - a.2) (y := p.1 - a.1) (by omega) (by omega) (by omega) (by omega)
  unfold cr
  omega
theorem scl_bd {a b : Int × Int} (ha : latP a) (hb : latP b) : 1 ≤ scl a b ∧ scl a b ≤ 9223372019674906632 := by
  have := d2_bd ha hb
  unfold scl
  split <;> omega
theorem w64_of {x : Int} (h : -9223372019674906632 ≤ x ∧ x ≤ 9223372019674906632) : wrap64 x = x := by unfold wrap64; omega
end Go.Proofs.Ytljdnahomhbenaa
