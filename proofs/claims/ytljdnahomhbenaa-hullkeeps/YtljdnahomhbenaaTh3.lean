/- Plain: which point cutAt takes: the first of those that are the furthest off, if it is further off than the tolerance. -/
import Derived.Test.YtljdnahomhbenaaTh1
import Derived.Test.YtljdnahomhbenaaTh2
set_option linter.unusedSimpArgs false
namespace Go.Proofs.Ytljdnahomhbenaa
open Go.RowKit Go.Sort

/-- The greatest so far and its place, behind the first k of those between. -/
def cutS (L : List (Int × Int)) (m0 : Int) : Nat → Int × Nat
  | 0 => (m0, 0)
  | k + 1 => if (cutS L m0 k).1 < offI (L.getD 0 (0, 0)) (L.getD (L.length - 1) (0, 0)) (L.getD (k + 1) (0, 0)) then (offI (L.getD 0 (0, 0)) (L.getD (L.length - 1) (0, 0)) (L.getD (k + 1) (0, 0)), k + 1) else cutS L m0 k
def cutP (L : List (Int × Int)) (tol : Int) : Nat := (cutS L (tol * tol * scl (L.getD 0 (0, 0)) (L.getD (L.length - 1) (0, 0))) (L.length - 2)).2
theorem cutS_le (L : List (Int × Int)) (m0 : Int) : ∀ k, (cutS L m0 k).2 ≤ k
  | 0 => Nat.le_refl _
  | k + 1 => by
    have := cutS_le L m0 k
    unfold cutS
    split
    · exact Nat.le_refl _
    · omega
theorem inI_prod {x y : Int} (hx : -9223372019674906632 ≤ x ∧ x ≤ 9223372019674906632) (hy : -9223372019674906632 ≤ y ∧ y ≤ 9223372019674906632) : inI (x * y) := (mul_words (by omega) (by omega) (by omega) (by omega)).2.2.2.2.2
theorem inI_off {a b p : Int × Int} (ha : latP a) (hb : latP b) (hp : latP p) : inI (offI a b p) := by
  have s := scl_bd ha hb
  have d1 := d2_bd ha hp
  have d2 := d2_bd hb hp
  have c := cr_bd ha hb hp
  unfold offI
  split
  · exact inI_prod (by omega) (by omega)
  · split
    · exact inI_prod (by omega) (by omega)
    · exact inI_prod c c
theorem Hs.other {w : World} {b t : Nat} {vs : Array Value} (h : Hs w b t vs) {p : Addr} (hp : b ≠ p.block) (v : Value) : Hs (w.setCell p v) b t vs := (Below.heap_setCell w p v b hp).trans h

end Go.Proofs.Ytljdnahomhbenaa
