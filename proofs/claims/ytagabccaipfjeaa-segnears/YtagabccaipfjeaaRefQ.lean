/- Plain: the reference's meeting is the meeting from the words. -/
import Derived.Test.YtagabccaipfjeaaRefP
import Derived.Test.YtagabccaipfjeaaR16
namespace Go.Proofs.Ytagabccaipfjeaa

theorem al_ratio {a b c : P2} (hc : crs a b c = 0) : dtt a b c * absI (alD a b) = alN (alP a b c) (alD a b) * dd a b := by
  unfold alP alD
  by_cases hx : a.1 ≠ b.1
  · rw [if_pos hx, if_pos hx]
    unfold absI alN crs dtt dd at *
    split <;> grind
  · have hx' : a.1 = b.1 := by omega
    rw [if_neg hx, if_neg hx]
    unfold absI alN crs dtt dd at *
    rw [hx'] at *
    split <;> grind
theorem alD_pos {a b : P2} (h : a ≠ b) : 0 < absI (alD a b) := by
  unfold alD
  by_cases hx : a.1 ≠ b.1
  · rw [if_pos hx]; unfold absI; split <;> omega
  · rw [if_neg hx]
    have hy : b.2 - a.2 ≠ 0 := fun q => h (Prod.ext (by omega) (by omega))
    unfold absI; split <;> omega
def crW (px py qx qy : Int) : Int := px * qy - py * qx
/-- The reference's meeting, on the lattice. -/
def refM (a b c d : P2) : Mt := if a = b then (if onP a c d then oneM (0, 1) else mt0) else if crs a b c = 0 ∧ crs a b d = 0 then refLine (absI (alD a b)) (min (alN (alP a b c) (alD a b)) (alN (alP a b d) (alD a b))) (max (alN (alP a b c) (alD a b)) (alN (alP a b d) (alD a b))) else if c = d then mt0
  else refCross (crW (c.1 - a.1) (c.2 - a.2) (d.1 - c.1) (d.2 - c.2)) (crW (c.1 - a.1) (c.2 - a.2) (b.1 - a.1) (b.2 - a.2)) (crW (b.1 - a.1) (b.2 - a.2) (d.1 - c.1) (d.2 - c.2))
theorem refM_eq (a b c d : P2) : refM a b c d = meetT a b c d := by
  unfold refM meetT
  by_cases h : a = b
  · rw [if_pos h, if_pos h]
  · rw [if_neg h, if_neg h]
    by_cases k : crs a b c = 0 ∧ crs a b d = 0
    · rw [if_pos k, if_pos k]
      exact line_ref (alD_pos h) (dd_pos h) (al_ratio k.1) (al_ratio k.2)
    · rw [if_neg k, if_neg k]
      by_cases q : c = d
      · rw [if_pos q]
        subst q
        have e1 : crs c c a = 0 := by unfold crs; grind
        have e2 : crs c c b = 0 := by unfold crs; grind
        rw [e1, e2]
        unfold crossM
        rw [if_neg (by omega)]
      · rw [if_neg q]
        have e1 : crW (c.1 - a.1) (c.2 - a.2) (d.1 - c.1) (d.2 - c.2) = crs c d a := by unfold crW crs; grind
        have e2 : crW (c.1 - a.1) (c.2 - a.2) (b.1 - a.1) (b.2 - a.2) = -crs a b c := by unfold crW crs; grind
        have e3 : crW (b.1 - a.1) (b.2 - a.2) (d.1 - c.1) (d.2 - c.2) = crs c d a - crs c d b := by unfold crW crs; grind
        rw [e1, e2, e3]
        exact cross_ref (sides a b c d)
end Go.Proofs.Ytagabccaipfjeaa
