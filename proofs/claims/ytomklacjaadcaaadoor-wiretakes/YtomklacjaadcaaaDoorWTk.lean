/- What the law WireTakes needs besides: an In and the reference's stay where the other is written; bytes copied into a row; the wants in a slice. -/
import Derived.Test.YtomklacjaadcaaaDoorStands
import Derived.Test.YtomklacjaadcaaaDoorWorks
import Derived.Test.YtomklacjaadcaaaDoorTurnW
namespace Go.Proofs.YtomklacjaadcaaaDoor
open Go.RowKit Go.Sort

/-- A block that holds no byte. -/
def NoBy (w : World) (g : Nat) : Prop := ∃ t L, Row w g t L ∧ ∀ v ∈ L, ∀ n, v ≠ .int .u8 n
theorem By.off {a b : World} {ao : Option Addr} {l : List UInt8} {g : Nat} (h : By a ao l) (hb : NoBy a g) (k : a.grownBy b (some g)) : By b ao l := fun i hi => by
  obtain ⟨bl, off, e, hc⟩ := h i hi
  refine ⟨bl, off, e, k.cell hc ?_⟩
  intro e2
  have hg : bl = g := by simpa using e2
  subst hg
  obtain ⟨t, L, hR, hL⟩ := hb
  rw [hR.cell] at hc
  exact hL _ (List.mem_of_getElem? hc) _ rfl
theorem InIs.noBy {w : World} {i : Nat} {l : List UInt8} {at' f : Nat} (h : InIs w i l at' f) : NoBy w i := by
  obtain ⟨ao, cap, h1, _⟩ := h
  exact ⟨_, _, h1, fun v hv n => by simp [inL] at hv; rcases hv with rfl | rfl | rfl <;> simp⟩
theorem RefIs.noBy {w : World} {i : Nat} {l : List UInt8} {at' f : Nat} (h : RefIs w i l at' f) : NoBy w i := by
  obtain ⟨ao, cap, h1, _⟩ := h
  exact ⟨_, _, h1, fun v hv n => by simp [refL] at hv; rcases hv with rfl | rfl | rfl | rfl <;> simp⟩
theorem InIs.off {a b : World} {i g : Nat} {l : List UInt8} {at' f : Nat} (h : InIs a i l at' f) (hb : NoBy a g) (hi : i ≠ g) (k : a.grownBy b (some g)) : InIs b i l at' f := by
  obtain ⟨ao, cap, h1, h2, h3, h4, h5, h6⟩ := h
  exact ⟨ao, cap, h1.grown k (by intro e; cases e; exact hi rfl), h2.off hb k, h3, h4, h5, h6⟩
theorem RefIs.off {a b : World} {i g : Nat} {l : List UInt8} {at' f : Nat} (h : RefIs a i l at' f) (hb : NoBy a g) (hi : i ≠ g) (k : a.grownBy b (some g)) : RefIs b i l at' f := by
  obtain ⟨ao, cap, h1, h2, h3, h4, h5, h6⟩ := h
  exact ⟨ao, cap, h1.grown k (by intro e; cases e; exact hi rfl), h2.off hb k, h3, h4, h5, h6⟩

/-- Wants in a slice. -/
def Wts (w : World) (ao : Option Addr) (l : List (Int × Int)) : Prop := ∀ i, i < l.length → ∃ b off, ao = some ⟨b, off, none⟩ ∧
  w.cell? ⟨b, off + i * 2, none⟩ = some (.int .i64 (l.getD i (0, 0)).1) ∧ w.cell? ⟨b, off + i * 2 + 1, none⟩ = some (.int .i64 (l.getD i (0, 0)).2)

/-- The four of the law: the program's In and the reference's over the bytes, and two over none. -/
structure Four4 (W : World) (i r z y : Nat) (l : List UInt8) (a f a2 f2 : Nat) : Prop where
  I : InIs W i l a f
  R : RefIs W r l a f
  Z : InIs W z [] a2 f2
  Y : RefIs W y [] a2 f2
theorem Four4.below {W W' : World} {i r z y : Nat} {l : List UInt8} {a f a2 f2 : Nat} (h : Four4 W i r z y l a f a2 f2) (k : Below W.heap.size W W') : Four4 W' i r z y l a f a2 f2 :=
  ⟨h.I.below k, h.R.below k, h.Z.below k, h.Y.below k⟩

/-- Bytes copied to the beginning of a row. -/
theorem copy_in {w : World} {g n cap dl : Nat} {ao : Option Addr} {l : List UInt8} {L : List Value} (hR : Row w g 5 L) (hL : L.length = dl) (hn : l.length = n) (hd : n ≤ dl) (h : By w ao l) (h0 : ao = none → l = []) :
    ∃ w', (Builtin.copy_ #[31, 31] 3 #[.slice (some ⟨g, 0, none⟩) dl dl, .slice ao n cap]).run Tryd.prog w = .ok (goInt n) w' ∧ Row w' g 5 (bc l ++ L.drop n) ∧ ∀ B, B ≤ g → Below B w w' := by
  have hs : (Tryd.prog.info? 5).map (·.size) = some 1 := by kernel_rfl
  by_cases hz : n = 0
  · have e : l = [] := List.eq_nil_of_length_eq_zero (by omega)
    subst e
    subst hz
    exact ⟨w, run_copy_none (P := Tryd.prog) w 31 31 3 5 _ _ _ _ _ _ Tryd.underlying31 hs (Nat.zero_min _), by simpa [bc] using hR, fun B _ => Below.refl _ _⟩
  · cases ao with
    | none => exact absurd (h0 rfl) (by intro e; subst e; simp at hn; omega)
    | some a =>
      have r := run_copy_row (P := Tryd.prog) w 31 31 3 5 g 0 dl dl a n cap L.toArray 5 (bc l) Tryd.underlying31 hs hR (by rw [bc_len, hn]; exact (Nat.min_eq_left hd).symm) (By.src h) (by simp [bc_len]; omega) bc_one
      rw [bc_len, hn] at r
      refine ⟨_, r, ?_, fun B hB => below_setRow (Below.refl _ _) hB _⟩
      have e := setRow_heap w g L.toArray ((L.toArray.toList.take 0 ++ bc l ++ L.toArray.toList.drop (0 + n)).toArray) 5 (0, 0) hR
      unfold Row
      rw [e]
      simp
end Go.Proofs.YtomklacjaadcaaaDoor
