/- Contracts of the program's and the reference's greatest common divisor, and of the reference's products held against one another. -/
import Derived.Test.YtagabccaipfjeaaProd
import Derived.Test.YtagabccaipfjeaaBase
namespace Go.Proofs.Ytagabccaipfjeaa
open Go.RowKit Go.Sort

/-- The greatest common divisor of two numbers' sizes. -/
def gcdI (a b : Int) : Int := (Nat.gcd (absI a).toNat (absI b).toNat : Nat)

set_option maxHeartbeats 1000000 in
theorem wgcd_any (a b : Int) (w : World) (ha0 : -9223372036854775808 ≤ a) (ha1 : a ≤ 9223372036854775807) (hb0 : -9223372036854775808 ≤ b) (hb1 : b ≤ 9223372036854775807) :
    Calls Try.prog 67 #[.int .i64 a, .int .i64 b] w fun e w' => e = .returned (.int .u64 (gcdI a b)) ∧ Gr w w' := by
  obtain ⟨x1, x2⟩ := absI_bd ha0 ha1
  obtain ⟨y1, y2⟩ := absI_bd hb0 hb1
  unfold gcdI
  obtain ⟨X, hX⟩ := Int.eq_ofNat_of_zero_le x1
  obtain ⟨Y, hY⟩ := Int.eq_ofNat_of_zero_le y1
  rw [hX, hY, Int.toNat_natCast, Int.toNat_natCast]
  have HX : Hid (absI a = X) := hX
  have HY : Hid (absI b = Y) := hY
  have bX : X ≤ 9223372036854775808 := by omega
  have bY : Y ≤ 9223372036854775808 := by omega
  clear hX hY x1 x2 y1 y2
  go_enter Try.func67, Try.ntmps67
  go_wp2_with (go_at_call 73; refine (size64_any _ _ ?_ ?_).mono ?_; omega; omega; rintro e w' ⟨rfl, rfl⟩)
  rw [HX.out, HY.out]
  go_loopw [5, 6] (fun v5 v6 wr => ∃ P Q : Nat, P ≤ 9223372036854775808 ∧ Q ≤ 9223372036854775808 ∧ v5 = .int .u64 P ∧ v6 = .int .u64 Q ∧ Hid (Nat.gcd P Q = Nat.gcd X Y) ∧ Gr w' wr) (fun _ v6 _ => (intOf v6).toNat)
  case atStart => exact ⟨X, Y, bX, bY, rfl, rfl, rfl, Gr.refl _⟩
  case round =>
    obtain ⟨P, Q, hP, hQ, rfl, rfl, hE, hg⟩ := hrel
    by_cases h0 : Q = 0
    · subst h0
      have E : Hid (Nat.gcd X Y = P) := by have := hE.out; rw [Nat.gcd_zero_right] at this; exact this.symm
      go_wp2
      go_ret
      exact ⟨by rw [E.out]; rfl, hg⟩
    · have h1 : ((Q : Int) != 0) = true := by simp; omega
      have h3 : ((Q : Int) == 0) = false := by simp; omega
      have hM : Hid (((P % Q : Nat) : Int) = (P : Int) % (Q : Int)) := Int.natCast_emod P Q
      have hR : P % Q < Q := Nat.mod_lt _ (by omega)
      have h2 : (0 : Int) < (Q : Int) := by omega
      have E : Hid (Nat.gcd Q (P % Q) = Nat.gcd X Y) := by unfold Hid; rw [← hE.out, Nat.gcd_comm P Q, Nat.gcd_rec Q P, Nat.gcd_comm]
      clear hE h0
      go_wp2
      go_quiet (fail)
      go_wp2
      go_roundw
      case rel => exact ⟨Q, P % Q, hQ, by omega, rfl, by rw [hM.out], E, hg.trans ⟨nq, #[], by rw [grow_empty]⟩⟩
      case measure =>
        show (((P : Int) % (Q : Int)).toNat < ((Q : Int)).toNat)
        rw [← hM.out, Int.toNat_natCast, Int.toNat_natCast]; exact hR

end Go.Proofs.Ytagabccaipfjeaa
