/- Plain facts on square roots: one only; found bit by bit; found by halving. -/
import Derived.Test.YtgpkigofbncamaaRound
namespace Go.Proofs.Ytgpkigofbncamaa
open Go.RowKit

/-- The square root of m, rounded down, is s. -/
def isSq (m s : Int) : Prop := 0 ≤ s ∧ s * s ≤ m ∧ m < (s + 1) * (s + 1)
theorem sq_le {s t : Int} (h0 : 0 ≤ s) (h : s ≤ t) : s * s ≤ t * t := Int.mul_le_mul h h h0 (by omega)
theorem sq_one {m s t : Int} (hs : isSq m s) (ht : isSq m t) : s = t := by
  obtain ⟨s0, s1, s2⟩ := hs
  obtain ⟨t0, t1, t2⟩ := ht
  have h1 : ¬ s < t := fun h => by
    have := sq_le (s := s + 1) (t := t) (by omega) (by omega)
    omega
  have h2 : ¬ t < s := fun h => by
    have := sq_le (s := t + 1) (t := s) (by omega) (by omega)
    omega
  omega

/-- The upper bits of the root are found: all but the last k. -/
structure Rt (m root : Int) (k : Nat) : Prop where
  nn : 0 ≤ root
  mul : root % p2 k = 0
  lo : root * root ≤ m
  hi : m < (root + p2 k) * (root + p2 k)
  top : root + p2 k ≤ p2 64
theorem Rt.start {m : Int} (h : 0 ≤ m) (h' : inI m) : Rt m 0 64 := by
  refine ⟨by omega, Int.zero_emod _, by omega, ?_, by omega⟩
  rw [p2_64]
  unfold inI at h'
  omega
theorem mul_half {root : Int} {j : Nat} (h : root % p2 (j + 1) = 0) : root % p2 j = 0 := by
  have h1 : p2 (j + 1) = p2 j * 2 := by rw [p2_succ]; omega
  rw [h1] at h
  exact Int.emod_eq_zero_of_dvd (Int.dvd_trans (Int.dvd_mul_right _ _) (Int.dvd_of_emod_eq_zero h))
theorem Rt.yes {m root : Int} {j : Nat} (h : Rt m root (j + 1)) (hq : (root + p2 j) * (root + p2 j) ≤ m) : Rt m (root + p2 j) j := by
  have hp := p2_pos j
  have e := p2_succ j
  have nn := h.nn
  have h4 := h.hi
  have h5 := h.top
  rw [e, ← Int.add_assoc] at h4 h5
  refine ⟨by omega, ?_, hq, h4, h5⟩
  rw [Int.add_emod, mul_half h.mul]; simp
theorem Rt.no {m root : Int} {j : Nat} (h : Rt m root (j + 1)) (hq : m < (root + p2 j) * (root + p2 j)) : Rt m root j := by
  have hp := p2_pos j
  have e := p2_succ j
  have h5 := h.top
  exact ⟨h.nn, mul_half h.mul, h.lo, hq, by omega⟩
theorem Rt.done {m root : Int} (h : Rt m root 0) : isSq m root := ⟨h.nn, h.lo, h.hi⟩
/-- The bit that is tried while the last k are to be found. -/
def bitI : Nat → Int
  | 0 => 0
  | j + 1 => p2 j
theorem bit_half (j : Nat) : p2 j / 2 = bitI j := by
  cases j with
  | zero => decide
  | succ j => show p2 (j + 1) / 2 = p2 j; rw [p2_succ]; omega

/-- The root lies from lo on and below hi. -/
structure Hv (m lo hi : Int) : Prop where
  l0 : 0 ≤ lo
  lt : lo < hi
  top : hi ≤ 18446744073709551616
  sl : lo * lo ≤ m
  sh : m < hi * hi
theorem Hv.start {m : Int} (h : 0 ≤ m) (h' : inI m) : Hv m 0 18446744073709551616 := by
  unfold inI at h'
  exact ⟨by omega, by omega, by omega, by omega, by omega⟩
theorem Hv.done {m lo hi : Int} (h : Hv m lo hi) (hd : hi ≤ lo + 1) : isSq m lo := by
  have e : hi = lo + 1 := by have := h.lt; omega
  have := h.sh
  rw [e] at this
  exact ⟨h.l0, h.sl, this⟩
theorem Hv.up {m lo hi : Int} (h : Hv m lo hi) (hl : lo + 1 < hi) (hq : (lo + hi) / 2 * ((lo + hi) / 2) ≤ m) : Hv m ((lo + hi) / 2) hi := by
  have := h.l0
  exact ⟨by omega, by omega, h.top, hq, h.sh⟩
theorem Hv.down {m lo hi : Int} (h : Hv m lo hi) (hl : lo + 1 < hi) (hq : m < (lo + hi) / 2 * ((lo + hi) / 2)) : Hv m lo ((lo + hi) / 2) := by
  have := h.top
  exact ⟨h.l0, by omega, by omega, h.sl, hq⟩
end Go.Proofs.Ytgpkigofbncamaa
