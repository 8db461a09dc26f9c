/- Contract of the program's quotient of two words by one. -/
import Derived.Test.YtgpkigofbncamaaDoorProd
import Derived.Test.YtgpkigofbncamaaDoorQuoP
import Derived.Shelf.Small.Bits
import Derived.Lib.ItoaNum
import Derived.Laws.BitsAllLaws
import Derived.Deep.CutBlock
import Derived.Deep.DeepCutAuto
import Derived.BigQuiet
namespace Go.Proofs.YtgpkigofbncamaaDoor
open Go.RowKit Go.Sort Go.Shelf

def renLen : Ren := ⟨fun n => if n = 134 then 52 else if n = 129 then 64 else n, fun n => if n = 46 then 68 else if n = 53 then 22 else n, fun n => n⟩
theorem laysLen : Lays.n134 Tryd.prog renLen where
  mixed := by kernel_rfl
  f129 := by kernel_rfl
  f134 := by kernel_rfl
  t3 := by kernel_rfl
  a3 := fun w => by kernel_rfl
  z3 := fun w => by kernel_rfl
  v3 := fun w => by kernel_rfl
  t4 := by kernel_rfl
  a4 := fun w => by kernel_rfl
  z4 := fun w => by kernel_rfl
  v4 := fun w => by kernel_rfl
  t5 := by kernel_rfl
  a5 := fun w => by kernel_rfl
  z5 := fun w => by kernel_rfl
  v5 := fun w => by kernel_rfl
  t9 := by kernel_rfl
  a9 := fun w => by kernel_rfl
  z9 := fun w => by kernel_rfl
  v9 := fun w => by kernel_rfl
  t46 := by kernel_rfl
  a46 := fun w => by kernel_rfl
  z46 := fun w => by kernel_rfl
  v46 := fun w => by kernel_rfl
  t53 := by kernel_rfl
  a53 := fun w => by kernel_rfl
  z53 := fun w => by kernel_rfl
  v53 := fun w => by kernel_rfl
theorem hid {p : Prop} (h : p) : Hid p := h
/-- How many noughts stand ahead in a word above 0. -/
theorem lead_any (y : Int) (h0 : 0 < y) (h1 : y ≤ 18446744073709551615) :
    ∃ s : Nat, s ≤ 63 ∧ 9223372036854775808 ≤ y * 2 ^ s ∧ y * 2 ^ s ≤ 18446744073709551615 ∧ ∀ w, Calls Tryd.prog 52 #[.int .u64 y] w fun e w' => e = .returned (.int .i64 (s : Int)) ∧ w' = w := by
  obtain ⟨Y, rfl⟩ := Int.eq_ofNat_of_zero_le (Int.le_of_lt h0)
  have hb := Lib.bitLenAux_bounds 64 Y (by omega) (by omega)
  have hc : ∀ w, Calls Tryd.prog 52 #[.int .u64 (Y : Int)] w fun e w' => e = .returned (.int .i64 (64 - (Lib.bitLen Y : Int))) ∧ w' = w := fun w => Any.bits_LeadingZeros64 laysLen Y w (by omega) h1
  have hl := Lib.bitLen_le Y 64 (by omega) (by omega)
  unfold Lib.bitLen at *
  generalize Lib.bitLenAux 64 Y = L at *
  have hcast : (Y : Int) * 2 ^ (64 - L) = ((Y * 2 ^ (64 - L) : Nat) : Int) := by rw [Int.natCast_mul, Int.natCast_pow]; rfl
  obtain ⟨b1, b2, b3⟩ := hb
  refine ⟨64 - L, by omega, ?_, ?_, ?_⟩
  · have e : 2 ^ (L - 1) * 2 ^ (64 - L) = 9223372036854775808 := by rw [← Nat.pow_add, show L - 1 + (64 - L) = 63 from by omega]
    have := Nat.mul_le_mul_right (2 ^ (64 - L)) b2
    rw [e] at this
    rw [hcast]
    generalize Y * 2 ^ (64 - L) = N at *
    omega
  · have e : 2 ^ L * 2 ^ (64 - L) = 18446744073709551616 := by rw [← Nat.pow_add, show L + (64 - L) = 64 from by omega]
    have := Nat.mul_lt_mul_of_pos_right b3 (Nat.two_pow_pos (64 - L))
    rw [e] at this
    rw [hcast]
    generalize Y * 2 ^ (64 - L) = N at *
    omega
  · rw [show (((64 - L : Nat)) : Int) = 64 - (L : Int) from by omega]
    exact hc

theorem and_mask {a : Int} (h0 : 0 ≤ a) (h1 : a ≤ 18446744073709551615) : bits .and .u64 a 4294967295 = a % 4294967296 := by
  rw [u64_and a 4294967295 h0 (by omega) (by omega) (by omega)]
  have e : (4294967295 : Int).toNat = 2 ^ 32 - 1 := by decide
  rw [e, Nat.and_two_pow_sub_one_eq_mod]
  omega
theorem or_add {A b : Int} {s : Nat} (hA : 0 ≤ A) (hb : 0 ≤ b) (hs : b < 2 ^ s) (h1 : A * 2 ^ s + b ≤ 18446744073709551615) : bits .or .u64 (A * 2 ^ s) b = A * 2 ^ s + b := by
  obtain ⟨A, rfl⟩ := Int.eq_ofNat_of_zero_le hA
  obtain ⟨b, rfl⟩ := Int.eq_ofNat_of_zero_le hb
  have hcast : (A : Int) * 2 ^ s = ((A * 2 ^ s : Nat) : Int) := by rw [Int.natCast_mul, Int.natCast_pow]; rfl
  have hs' : b < 2 ^ s := by
    have : ((2 ^ s : Nat) : Int) = 2 ^ s := by rw [Int.natCast_pow]; rfl
    rw [← this] at hs
    exact Int.ofNat_lt.1 hs
  rw [hcast] at h1 ⊢
  rw [u64_or_nat _ _ (by omega) (by omega), ← Nat.shiftLeft_eq, ← Nat.shiftLeft_add_eq_or_of_lt hs' A]
  rfl
/-- The words that the quotient is made of, behind the shift. -/
structure Sh (hi lo y : Int) (s : Nat) : Prop where
  wh : IntKind.u64.wrap (hi * 2 ^ s) = hi * 2 ^ s
  word : bits .or .u64 (hi * 2 ^ s) (lo / 2 ^ (64 - s)) = hi * 2 ^ s + lo / 2 ^ (64 - s)
  low : 0 ≤ hi * 2 ^ s + lo / 2 ^ (64 - s)
  top : hi * 2 ^ s + lo / 2 ^ (64 - s) < y * 2 ^ s
  all : (hi * 18446744073709551616 + lo) * 2 ^ s = ((hi * 2 ^ s + lo / 2 ^ (64 - s)) * 4294967296 + IntKind.u64.wrap (lo * 2 ^ s) / 4294967296) * 4294967296 + IntKind.u64.wrap (lo * 2 ^ s) % 4294967296
theorem sh_any {hi lo y : Int} {s : Nat} (hs : s ≤ 63) (h0 : 0 ≤ hi) (h1 : hi < y) (h2 : y * 2 ^ s ≤ 18446744073709551615) (l0 : 0 ≤ lo) (l1 : lo ≤ 18446744073709551615) : Sh hi lo y s := by
  have hS : (0 : Int) < 2 ^ s := Int.pow_pos (by omega)
  have hT : (0 : Int) < 2 ^ (64 - s) := Int.pow_pos (by omega)
  have e : (2 : Int) ^ s * 2 ^ (64 - s) = 18446744073709551616 := by rw [← Int.pow_add, show s + (64 - s) = 64 from by omega]; rfl
  have hw := shifted_words (hi := hi) (lo := lo) hS e
  have h3 : (hi + 1) * 2 ^ s ≤ y * 2 ^ s := Int.mul_le_mul_of_nonneg_right (by omega) (Int.le_of_lt hS)
  have h4 : 0 ≤ hi * 2 ^ s := Int.mul_nonneg h0 (Int.le_of_lt hS)
  have h5 : 0 ≤ lo / 2 ^ (64 - s) := Int.ediv_nonneg l0 (Int.le_of_lt hT)
  have h6 : lo / 2 ^ (64 - s) < 2 ^ s := Int.ediv_lt_of_lt_mul hT (by rw [e]; omega)
  rw [Int.add_mul, Int.one_mul] at h3
  have e1 : IntKind.u64.wrap (hi * 2 ^ s) = hi * 2 ^ s := by rw [IntKind.wrap_u64]; omega
  refine ⟨e1, or_add h0 h5 h6 (by omega), by omega, by omega, ?_⟩
  rw [IntKind.wrap_u64]
  exact hw
/-- The guess and what is left by it, as the program reckons them. -/
theorem guess {y U c : Int} (k : Gk y U c) : IntKind.u64.wrap (U.tdiv (y / 4294967296)) = U / (y / 4294967296) ∧ IntKind.u64.wrap (U - IntKind.u64.wrap (U / (y / 4294967296) * (y / 4294967296))) = U - U / (y / 4294967296) * (y / 4294967296) := by
  have h := k.start
  obtain ⟨y0, y1, u0, u1, c0, c1⟩ := k
  have h1 := h.nn
  have h2 := h.top
  have h3 := h.rn
  have h4 := h.rt
  have e : U.tdiv (y / 4294967296) = U / (y / 4294967296) := Int.tdiv_eq_ediv_of_nonneg u0
  rw [e]
  generalize U / (y / 4294967296) = q at *
  generalize q * (y / 4294967296) = p at *
  simp only [IntKind.wrap_u64]
  omega

/-- What is left by a half of the quotient, as the program reckons it. -/
theorem rest_word {y U c : Int} (k : Gk y U c) : IntKind.u64.wrap (IntKind.u64.wrap (IntKind.u64.wrap (U * 4294967296) + c) - IntKind.u64.wrap ((U * 4294967296 + c) / y * y)) = (U * 4294967296 + c) % y := by
  obtain ⟨y0, y1, u0, u1, c0, c1⟩ := k
  have h1 := Int.mul_ediv_add_emod (U * 4294967296 + c) y
  have h2 := Int.emod_nonneg (U * 4294967296 + c) (show y ≠ 0 by omega)
  have h3 := Int.emod_lt_of_pos (U * 4294967296 + c) (show 0 < y by omega)
  rw [Int.mul_comm y] at h1
  generalize (U * 4294967296 + c) / y * y = p at *
  generalize (U * 4294967296 + c) % y = r at *
  simp only [IntKind.wrap_u64]
  omega
theorem half_word {y U c : Int} (k : Gk y U c) : 0 ≤ (U * 4294967296 + c) / y ∧ (U * 4294967296 + c) / y < 4294967296 := by
  obtain ⟨y0, y1, u0, u1, c0, c1⟩ := k
  exact ⟨Int.ediv_nonneg (by omega) (by omega), Int.ediv_lt_of_lt_mul (by omega) (by omega)⟩

set_option maxHeartbeats 2000000 in
theorem div64_any (hi lo y : Int) (w : World) (h0 : 0 ≤ hi) (h1 : hi < y) (h2 : y ≤ 18446744073709551615) (l0 : 0 ≤ lo) (l1 : lo ≤ 18446744073709551615) :
    Calls Tryd.prog 30 #[.int .u64 hi, .int .u64 lo, .int .u64 y] w fun e w' => e = .returned (.tuple #[.int .u64 ((hi * 18446744073709551616 + lo) / y), .int .u64 ((hi * 18446744073709551616 + lo) % y)]) ∧ Gr w w' := by
  have y0 : (y == 0) = false := by simp; omega
  have yh : decide (y ≤ hi) = false := by simp; omega
  by_cases hz : hi = 0
  · subst hz
    have e : (0 : Int) * 18446744073709551616 + lo = lo := by omega
    rw [e]
    clear e
    go_enter Tryd.func30, Tryd.ntmps30
    go_wp2
    refine wp_region_quiet_grown (by kernel_rfl) (by kernel_rfl) ?_
    repeat (go_big_quiet_step (fail))
    refine wpQuiet_nil ?_
    intro _ hw'
    obtain ⟨⟨nq, osq⟩, hw''⟩ := hw'
    subst hw''
    go_wp2
    go_ret2
    exact ⟨rfl, ⟨nq, osq, rfl⟩⟩
  · have hz' : (hi == 0) = false := by simp [hz]
    obtain ⟨s, hs, hy1, hy2, HL⟩ := lead_any y (by omega) h2
    have HC : Hid (∀ w, Calls Tryd.prog 52 #[.int .u64 y] w fun e w' => e = .returned (.int .i64 (s : Int)) ∧ w' = w) := HL
    clear HL
    obtain ⟨s1, s2, s3, s4, s5⟩ := sh_any hs h0 h1 hy2 l0 l1
    obtain ⟨E1, E2⟩ := scaled (v := hi * 18446744073709551616 + lo) (y := y) (S := 2 ^ s) (Int.pow_pos (by omega))
    generalize hRQ : (hi * 18446744073709551616 + lo) / y = RQ
    generalize hRR : (hi * 18446744073709551616 + lo) % y = RR
    rw [← E1, s5] at hRQ
    rw [← E2, s5] at hRR
    clear E1 E2
    have yp : (0 : Int) < y * 2 ^ s := by omega
    obtain ⟨T1, T2⟩ := two_halves (U := hi * 2 ^ s + lo / 2 ^ (64 - s)) (c := IntKind.u64.wrap (lo * 2 ^ s) / 4294967296) (d := IntKind.u64.wrap (lo * 2 ^ s) % 4294967296) yp
    rw [T1] at hRQ
    rw [T2] at hRR
    have HQ := hid hRQ
    have HR := hid hRR
    clear T1 T2 s5 hRQ hRR
    have hV := wrap_u64_bd (lo * 2 ^ s)
    have m1 : bits .and .u64 (y * 2 ^ s) 4294967295 = y * 2 ^ s % 4294967296 := and_mask (by omega) hy2
    have m2 : bits .and .u64 (IntKind.u64.wrap (lo * 2 ^ s)) 4294967295 = IntKind.u64.wrap (lo * 2 ^ s) % 4294967296 := and_mask hV.1 (by omega)
    have HM1 : Hid (bits .and .u64 (y * 2 ^ s) 4294967295 = y * 2 ^ s % 4294967296) := m1
    have HM2 : Hid (bits .and .u64 (IntKind.u64.wrap (lo * 2 ^ s)) 4294967295 = IntKind.u64.wrap (lo * 2 ^ s) % 4294967296) := m2
    have HS1 : Hid (IntKind.u64.wrap (hi * 2 ^ s) = hi * 2 ^ s) := s1
    have HS2 : Hid (bits .or .u64 (hi * 2 ^ s) (lo / 2 ^ (64 - s)) = hi * 2 ^ s + lo / 2 ^ (64 - s)) := s2
    clear m1 m2 s1 s2
    go_enter Tryd.func30, Tryd.ntmps30
    go_upto_block 0 with (go_at_call 52; refine (HC.out _).mono ?_; rintro e w' ⟨rfl, rfl⟩)
    rw [HM1.out, HM2.out, HS1.out, HS2.out]
    clear HM1 HM2 HS1 HS2 HC
    generalize IntKind.u64.wrap (lo * 2 ^ s) = V at *
    generalize hi * 2 ^ s + lo / 2 ^ (64 - s) = U at *
    have k1 : Gk (y * 2 ^ s) U (V / 4294967296) := ⟨hy1, by omega, s3, s4, by omega, by omega⟩
    obtain ⟨g1, g2⟩ := guess k1
    rw [g1, g2]
    clear g1 g2
    have k2 : Gk (y * 2 ^ s) ((U * 4294967296 + V / 4294967296) % (y * 2 ^ s)) (V % 4294967296) := ⟨hy1, by omega, Int.emod_nonneg _ (by omega), Int.emod_lt_of_pos _ yp, by omega, by omega⟩
    have c0 : 0 ≤ V / 4294967296 := by omega
    have c1 : V / 4294967296 < 4294967296 := by omega
    have d0 : 0 ≤ V % 4294967296 := by omega
    have d1 : V % 4294967296 < 4294967296 := by omega
    generalize V / 4294967296 = C at *
    generalize V % 4294967296 = D at *
    generalize y * 2 ^ s = Y at *
    have n0 : 0 ≤ Y % 4294967296 := by omega
    have n1 : Y % 4294967296 < 4294967296 := by omega
    have K1 : Hid (Gk Y U C) := k1
    have K2 : Hid (Gk Y ((U * 4294967296 + C) % Y) D) := k2
    clear k1 k2
    go_cut [15, 16] (fun q r w1 => q = .int .u64 ((U * 4294967296 + C) / Y) ∧ (∃ r', r = r') ∧ w1 = w')
    case first =>
      go_wp2_with fail
      go_loop [15, 16] (fun q r => ∃ a b : Int, q = .int .u64 a ∧ r = .int .u64 b ∧ Hid (Gs Y U C a b)) (fun q _ => (intOf q).toNat)
      case atStart => exact ⟨_, _, rfl, rfl, K1.out.start⟩
      case round =>
        obtain ⟨a, b, rfl, rfl, hG⟩ := hrel
        have q1 := hG.out.nn
        have q2 := hG.out.top
        have q3 := hG.out.rn
        have q4 := hG.out.rt
        by_cases hT : a < 4294967296 ∧ a * (Y % 4294967296) ≤ 4294967296 * b + C
        · obtain ⟨t1, t2⟩ := hT
          have p0 : 0 ≤ a * (Y % 4294967296) := Int.mul_nonneg q1 n0
          have E : Hid ((U * 4294967296 + C) / Y = a) := (hG.out.done K1.out t1 t2).1
          go_wp2
          go_meet
          exact ⟨by rw [E.out], ⟨_, rfl⟩, rfl⟩
        · obtain ⟨m1, _, _, m4⟩ := hG.out.more K1.out hT
          by_cases hr : 4294967296 ≤ b + Y / 4294967296
          · have E : Hid ((U * 4294967296 + C) / Y = a - 1) := (hG.out.last K1.out hT hr).1
            by_cases ha : a < 4294967296
            · have t2 : 4294967296 * b + C < a * (Y % 4294967296) := by omega
              have p1 : a * (Y % 4294967296) ≤ 18446744073709551615 := by
                have := Int.mul_le_mul (a := a) (b := Y % 4294967296) (c := 4294967295) (d := 4294967295) (by omega) (by omega) n0 (by omega)
                omega
              clear hT
              go_wp2
              go_meet
              exact ⟨by rw [E.out], ⟨_, rfl⟩, rfl⟩
            · clear hT
              go_wp2
              go_meet
              exact ⟨by rw [E.out], ⟨_, rfl⟩, rfl⟩
          · have N : Hid (Gs Y U C (a - 1) (b + Y / 4294967296)) := hG.out.next K1.out hT (by omega)
            by_cases ha : a < 4294967296
            · have t2 : 4294967296 * b + C < a * (Y % 4294967296) := by omega
              have p1 : a * (Y % 4294967296) ≤ 18446744073709551615 := by
                have := Int.mul_le_mul (a := a) (b := Y % 4294967296) (c := 4294967295) (d := 4294967295) (by omega) (by omega) n0 (by omega)
                omega
              clear hT
              go_wp2
              go_round
              case rel => exact ⟨_, _, rfl, rfl, N⟩
              case measure => simp [intOf]; omega
            · clear hT
              go_wp2
              go_round
              case rel => exact ⟨_, _, rfl, rfl, N⟩
              case measure => simp [intOf]; omega
    case rest =>
      obtain ⟨rfl, ⟨r', rfl⟩, rfl⟩ := hcut
      go_upto_block 2 with fail
      obtain ⟨b1, b2⟩ := half_word K1.out
      have b3 := Int.emod_nonneg (U * 4294967296 + C) (show Y ≠ 0 by omega)
      have b4 := Int.emod_lt_of_pos (U * 4294967296 + C) yp
      rw [rest_word K1.out]
      obtain ⟨g1, g2⟩ := guess K2.out
      rw [g1, g2]
      clear g1 g2 K1
      generalize (U * 4294967296 + C) % Y = R at *
      generalize (U * 4294967296 + C) / Y = Q1 at *
      go_cut [18, 16] (fun q r w1 => q = .int .u64 ((R * 4294967296 + D) / Y) ∧ (∃ r', r = r') ∧ w1 = wc)
      case first =>
        go_wp2_with fail
        go_loop [18, 16] (fun q r => ∃ a b : Int, q = .int .u64 a ∧ r = .int .u64 b ∧ Hid (Gs Y R D a b)) (fun q _ => (intOf q).toNat)
        case atStart => exact ⟨_, _, rfl, rfl, K2.out.start⟩
        case round =>
          obtain ⟨a, b, rfl, rfl, hG⟩ := hrel
          have q1 := hG.out.nn
          have q2 := hG.out.top
          have q3 := hG.out.rn
          have q4 := hG.out.rt
          by_cases hT : a < 4294967296 ∧ a * (Y % 4294967296) ≤ 4294967296 * b + D
          · obtain ⟨t1, t2⟩ := hT
            have p0 : 0 ≤ a * (Y % 4294967296) := Int.mul_nonneg q1 n0
            have E : Hid ((R * 4294967296 + D) / Y = a) := (hG.out.done K2.out t1 t2).1
            go_wp2
            go_meet
            exact ⟨by rw [E.out], ⟨_, rfl⟩, rfl⟩
          · obtain ⟨m1, _, _, m4⟩ := hG.out.more K2.out hT
            by_cases hr : 4294967296 ≤ b + Y / 4294967296
            · have E : Hid ((R * 4294967296 + D) / Y = a - 1) := (hG.out.last K2.out hT hr).1
              by_cases ha : a < 4294967296
              · have t2 : 4294967296 * b + D < a * (Y % 4294967296) := by omega
                have p1 : a * (Y % 4294967296) ≤ 18446744073709551615 := by
                  have := Int.mul_le_mul (a := a) (b := Y % 4294967296) (c := 4294967295) (d := 4294967295) (by omega) (by omega) n0 (by omega)
                  omega
                clear hT
                go_wp2
                go_meet
                exact ⟨by rw [E.out], ⟨_, rfl⟩, rfl⟩
              · clear hT
                go_wp2
                go_meet
                exact ⟨by rw [E.out], ⟨_, rfl⟩, rfl⟩
            · have N : Hid (Gs Y R D (a - 1) (b + Y / 4294967296)) := hG.out.next K2.out hT (by omega)
              by_cases ha : a < 4294967296
              · have t2 : 4294967296 * b + D < a * (Y % 4294967296) := by omega
                have p1 : a * (Y % 4294967296) ≤ 18446744073709551615 := by
                  have := Int.mul_le_mul (a := a) (b := Y % 4294967296) (c := 4294967295) (d := 4294967295) (by omega) (by omega) n0 (by omega)
                  omega
                clear hT
                go_wp2
                go_round
                case rel => exact ⟨_, _, rfl, rfl, N⟩
                case measure => simp [intOf]; omega
              · clear hT
                go_wp2
                go_round
                case rel => exact ⟨_, _, rfl, rfl, N⟩
                case measure => simp [intOf]; omega
      case rest =>
        obtain ⟨rfl, ⟨r'', rfl⟩, rfl⟩ := hcut
        obtain ⟨e1, e2⟩ := half_word K2.out
        have E : Hid (IntKind.u64.wrap (IntKind.u64.wrap (IntKind.u64.wrap (R * 4294967296) + D) - IntKind.u64.wrap ((R * 4294967296 + D) / Y * Y)) = (R * 4294967296 + D) % Y) := rest_word K2.out
        go_wp2
        go_ret2
        exact ⟨by rw [E.out, HQ.out, HR.out]; rfl, Gr.refl _⟩
end Go.Proofs.YtgpkigofbncamaaDoor
