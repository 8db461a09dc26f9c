/- Contracts of the program's and the reference's greatest common divisor, and of the reference's products held against one another. -/
import Derived.Test.YtgpkigofbncamaaProd
import Derived.Test.YtgpkigofbncamaaLaw
namespace Go.Proofs.Ytgpkigofbncamaa
open Go.RowKit Go.Sort

/-- The greatest common divisor of two numbers' sizes. -/
def gcdI (a b : Int) : Int := (Nat.gcd (absI a).toNat (absI b).toNat : Nat)

set_option maxHeartbeats 1000000 in
theorem wgcd_any (a b : Int) (w : World) (ha0 : -9223372036854775808 ≤ a) (ha1 : a ≤ 9223372036854775807) (hb0 : -9223372036854775808 ≤ b) (hb1 : b ≤ 9223372036854775807) :
    Calls Try.prog 30 #[.int .i64 a, .int .i64 b] w fun e w' => e = .returned (.int .u64 (gcdI a b)) ∧ Gr w w' := by
  obtain ⟨x1, x2⟩ := absI_bd ha0 ha1
  obtain ⟨y1, y2⟩ := absI_bd hb0 hb1
  unfold gcdI
  obtain ⟨X, hX⟩ := Int.eq_ofNat_of_zero_le x1
  obtain ⟨Y, hY⟩ := Int.eq_ofNat_of_zero_le y1
  rw [hX, hY, Int.toNat_natCast, Int.toNat_natCast]
  have HX : Hid (absI a = X) := hX
  have HY : Hid (absI b = Y) := hY
  have bX : X ≤ 9223372036854775808 := by omega
  have bY : Y ≤ 9223372036854775808 := by omega
  clear hX hY x1 x2 y1 y2
  go_enter Try.func30, Try.ntmps30
  go_wp2_with (go_at_call 58; refine (size64_any _ _ ?_ ?_).mono ?_; omega; omega; rintro e w' ⟨rfl, rfl⟩)
  rw [HX.out, HY.out]
  go_loopw [5, 6] (fun v5 v6 wr => ∃ P Q : Nat, P ≤ 9223372036854775808 ∧ Q ≤ 9223372036854775808 ∧ v5 = .int .u64 P ∧ v6 = .int .u64 Q ∧ Hid (Nat.gcd P Q = Nat.gcd X Y) ∧ Gr w' wr) (fun _ v6 _ => (intOf v6).toNat)
  case atStart => exact ⟨X, Y, bX, bY, rfl, rfl, rfl, Gr.refl _⟩
  case round =>
    obtain ⟨P, Q, hP, hQ, rfl, rfl, hE, hg⟩ := hrel
    by_cases h0 : Q = 0
    · subst h0
      have E : Hid (Nat.gcd X Y = P) := by have := hE.out; rw [Nat.gcd_zero_right] at this; exact this.symm
      go_wp2
      go_ret
      exact ⟨by rw [E.out]; rfl, hg⟩
    · have h1 : ((Q : Int) != 0) = true := by simp; omega
      have h3 : ((Q : Int) == 0) = false := by simp; omega
      have hM : Hid (((P % Q : Nat) : Int) = (P : Int) % (Q : Int)) := Int.natCast_emod P Q
      have hR : P % Q < Q := Nat.mod_lt _ (by omega)
      have h2 : (0 : Int) < (Q : Int) := by omega
      have E : Hid (Nat.gcd Q (P % Q) = Nat.gcd X Y) := by unfold Hid; rw [← hE.out, Nat.gcd_comm P Q, Nat.gcd_rec Q P, Nat.gcd_comm]
      clear hE h0
      go_wp2
      go_quiet (fail)
      go_wp2
      go_roundw
      case rel => exact ⟨Q, P % Q, hQ, by omega, rfl, by rw [hM.out], E, hg.trans ⟨nq, #[], by rw [grow_empty]⟩⟩
      case measure =>
        show (((P : Int) % (Q : Int)).toNat < ((Q : Int)).toNat)
        rw [← hM.out, Int.toNat_natCast, Int.toNat_natCast]; exact hR

theorem field_any (r : Bool) (o : Option Addr) (l c : Nat) (w : World) : (Instr.field 29 (.agg #[.bool r, .slice o l c]) 1).run Try.prog w = .ok (.slice o l c) w := by kernel_rfl
theorem abs_nat (v : Int) : (v.natAbs : Int) = absI v := by unfold absI; split <;> omega

set_option maxHeartbeats 2000000 in
theorem rgcd_any (a b : Int) (w : World) (ha0 : -9223372036854775808 ≤ a) (ha1 : a ≤ 9223372036854775807) (hb0 : -9223372036854775808 ≤ b) (hb1 : b ≤ 9223372036854775807) :
    Calls Try.prog 31 #[.int .i64 a, .int .i64 b] w fun e w' => e = .returned (.int .u64 (gcdI a b)) ∧ Below w.heap.size w w' := by
  obtain ⟨x1, x2⟩ := absI_bd ha0 ha1
  obtain ⟨y1, y2⟩ := absI_bd hb0 hb1
  unfold gcdI
  obtain ⟨X, hX⟩ := Int.eq_ofNat_of_zero_le x1
  obtain ⟨Y, hY⟩ := Int.eq_ofNat_of_zero_le y1
  rw [hX, hY, Int.toNat_natCast, Int.toNat_natCast]
  have HX : Hid ((a.natAbs : Int) = X) := (abs_nat a).trans hX
  have HY : Hid ((b.natAbs : Int) = Y) := (abs_nat b).trans hY
  have bX : X ≤ 9223372036854775808 := by omega
  have bY : Y ≤ 9223372036854775808 := by omega
  clear hX hY x1 x2 y1 y2
  go_enter Try.func31, Try.ntmps31
  go_wp2_with fail
  refine (of_num a _ ha0 ha1).mono ?_
  rintro e w1 ⟨z, rfl, hz, hb1'⟩
  obtain ⟨r1, o1, l1, c1, rfl, hz1⟩ := hz.shape
  have hA : Hid (Nm w1 (.agg #[.bool false, .slice o1 l1 c1]) X) := by
    have := hz1.out.abs
    rw [HX.out] at this
    exact this
  clear hz hz1
  have f1 := field_any r1 o1 l1 c1
  go_wp2_with fail
  refine (word_num _ (X : Int) _ hA.out (by omega) (by omega)).mono ?_
  rintro e w2 ⟨rfl, hg2⟩
  have hb2 := hb1'.trans (hg2.below.mono hb1'.size)
  clear hb1' hg2 hA
  go_wp2_with fail
  refine (of_num b _ hb0 hb1).mono ?_
  rintro e w3 ⟨z, rfl, hz, hb3⟩
  obtain ⟨r3, o3, l3, c3, rfl, hz3⟩ := hz.shape
  have hB : Hid (Nm w3 (.agg #[.bool false, .slice o3 l3 c3]) Y) := by
    have := hz3.out.abs
    rw [HY.out] at this
    exact this
  replace hb2 := hb2.trans (hb3.mono hb2.size)
  clear hz hz3 hb3
  have f3 := field_any r3 o3 l3 c3
  go_wp2_with fail
  refine (word_num _ (Y : Int) _ hB.out (by omega) (by omega)).mono ?_
  rintro e w4 ⟨rfl, hg4⟩
  replace hb2 := hb2.trans (hg4.below.mono hb2.size)
  clear hg4 hB
  go_wp2
  go_loop [5, 6] (fun v5 v6 => ∃ P Q : Nat, P ≤ 9223372036854775808 ∧ Q ≤ 9223372036854775808 ∧ v5 = .int .u64 P ∧ v6 = .int .u64 Q ∧ Hid (Nat.gcd P Q = Nat.gcd X Y)) (fun v5 v6 => (intOf v5).toNat + (intOf v6).toNat)
  case atStart => exact ⟨X, Y, bX, bY, rfl, rfl, rfl⟩
  case round =>
    obtain ⟨P, Q, hP, hQ, rfl, rfl, hE⟩ := hrel
    by_cases hp0 : P = 0
    · subst hp0
      have E : Hid (Nat.gcd X Y = Q) := by have := hE.out; rw [Nat.gcd_zero_left] at this; exact this.symm
      go_wp2
      go_ret
      exact ⟨by rw [E.out]; simp, hb2⟩
    · by_cases hq0 : Q = 0
      · subst hq0
        have hp : (0 : Int) < (P : Int) := by omega
        have E : Hid (Nat.gcd X Y = P) := by have := hE.out; rw [Nat.gcd_zero_right] at this; exact this.symm
        go_wp2
        go_ret
        exact ⟨by rw [E.out]; simp, hb2⟩
      · have hp : (0 : Int) < (P : Int) := by omega
        have hq : (0 : Int) < (Q : Int) := by omega
        have hp' : ((P : Int) == 0) = false := by simp; omega
        have hq' : ((Q : Int) == 0) = false := by simp; omega
        by_cases hle : (Q : Int) ≤ (P : Int)
        · have hM : Hid (((P % Q : Nat) : Int) = (P : Int) % (Q : Int)) := Int.natCast_emod P Q
          have hR : P % Q < Q := Nat.mod_lt _ (by omega)
          have E : Hid (Nat.gcd (P % Q) Q = Nat.gcd X Y) := by unfold Hid; rw [← hE.out, Nat.gcd_comm P Q, ← Nat.gcd_rec]
          clear hE hp0 hq0
          go_wp2
          go_round
          case rel => exact ⟨P % Q, Q, by omega, hQ, by rw [hM.out], rfl, E⟩
          case measure =>
            show ((P : Int) % (Q : Int)).toNat + ((Q : Int)).toNat < ((P : Int)).toNat + ((Q : Int)).toNat
            rw [← hM.out, Int.toNat_natCast, Int.toNat_natCast, Int.toNat_natCast]; omega
        · have hM : Hid (((Q % P : Nat) : Int) = (Q : Int) % (P : Int)) := Int.natCast_emod Q P
          have hR : Q % P < P := Nat.mod_lt _ (by omega)
          have E : Hid (Nat.gcd P (Q % P) = Nat.gcd X Y) := by unfold Hid; rw [← hE.out, Nat.gcd_rec P Q, Nat.gcd_comm]
          clear hE hp0 hq0
          go_wp2
          go_round
          case rel => exact ⟨P, Q % P, hP, by omega, rfl, by rw [hM.out], E⟩
          case measure =>
            show ((P : Int)).toNat + ((Q : Int) % (P : Int)).toNat < ((P : Int)).toNat + ((Q : Int)).toNat
            rw [← hM.out, Int.toNat_natCast, Int.toNat_natCast, Int.toNat_natCast]; omega
end Go.Proofs.Ytgpkigofbncamaa
