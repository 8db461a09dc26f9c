/- Contracts of the program's conversion of a number into a real one. -/
import Derived.Test.YtgpkigofbncamabFlt
import Derived.Test.YtgpkigofbncamabRne
namespace Go.Proofs.Ytgpkigofbncamab
open Go.RowKit Go.Sort Go.Shelf

theorem len64_any (x : Nat) (w : World) (h : x < 18446744073709551616) :
    Calls Try.prog 41 #[.int .u64 (x : Int)] w fun e w' => e = .returned (.int .i64 (Lib.bitLen x : Int)) ∧ w' = w :=
  Any.bits_Len64 { laysLen with } x w (by omega) (by omega)
theorem len_bd {x : Nat} (h : x < 18446744073709551616) (h0 : 0 < x) : 1 ≤ Lib.bitLen x ∧ Lib.bitLen x ≤ 64 ∧ 2 ^ (Lib.bitLen x - 1) ≤ x ∧ x < 2 ^ Lib.bitLen x := by
  obtain ⟨b1, b2, b3⟩ := Lib.bitLenAux_bounds 64 x h (by omega)
  exact ⟨b1, Lib.bitLen_le x 64 (by omega) h, b2, b3⟩

set_option maxHeartbeats 400000 in
theorem bitlen_hi (h l : Nat) (w : World) (h0 : 0 < h) (h1 : h < 18446744073709551616) :
    Calls Try.prog 35 #[.agg #[.int .u64 (h : Int), .int .u64 (l : Int)]] w fun e w' => e = .returned (.int .i64 (64 + (Lib.bitLen h : Int))) ∧ Gr w w' := by
  have hb := (len_bd h1 h0).2.1
  have hn : ((h : Int) != 0) = true := by simp; omega
  go_enter Try.func35, Try.ntmps35
  go_wp2_with (go_at_call 41; refine (len64_any h _ h1).mono ?_; rintro e w' ⟨rfl, rfl⟩)
  go_ret
  exact ⟨rfl, (Gr.refl _).alloc _⟩
set_option maxHeartbeats 400000 in
theorem bitlen_lo (l : Nat) (w : World) (h1 : l < 18446744073709551616) :
    Calls Try.prog 35 #[.agg #[.int .u64 0, .int .u64 (l : Int)]] w fun e w' => e = .returned (.int .i64 (Lib.bitLen l : Int)) ∧ Gr w w' := by
  go_enter Try.func35, Try.ntmps35
  go_wp2_with (go_at_call 41; refine (len64_any l _ h1).mono ?_; rintro e w' ⟨rfl, rfl⟩)
  go_ret
  exact ⟨rfl, (Gr.refl _).alloc _⟩

set_option maxHeartbeats 400000 in
theorem sfloat_lo (l : Nat) (w : World) (h1 : l < 18446744073709551616) :
    Calls Try.prog 26 #[.agg #[.int .u64 0, .int .u64 (l : Int)]] w fun e w' => e = .returned (.float .f64 (Ieee.double.nearest false l 0)) ∧ Gr w w' := by
  have hb : Lib.bitLen l ≤ 64 := Lib.bitLen_le l 64 (by omega) h1
  have E : Hid (floatOfInt .f64 (l : Int) = Ieee.double.nearest false l 0) := by
    show Ieee.double.nearest (decide ((l : Int) < 0)) (l : Int).natAbs 0 = _
    rw [decide_eq_false (by omega), Int.natAbs_natCast]
  go_enter Try.func26, Try.ntmps26
  go_wp2_with fail
  refine (bitlen_lo l _ h1).mono ?_
  rintro e w1 ⟨rfl, g1⟩
  have k := (Bx.new w 45 (.int .u64 0) (.int .u64 (l : Int))).gr g1
  have c0 := k.c0
  have c1 := k.c1
  go_wp2
  go_ret
  exact ⟨by rw [← E.out]; rfl, ((Gr.refl _).alloc _).trans g1⟩

theorem cast_pow (a n : Nat) : (a : Int) * 2 ^ n = ((a * 2 ^ n : Nat) : Int) := by rw [Int.natCast_mul, Int.natCast_pow]; rfl
theorem cast_div (a n : Nat) : (a : Int) / 2 ^ n = ((a / 2 ^ n : Nat) : Int) := by rw [Int.natCast_ediv, Int.natCast_pow]; rfl
theorem top_words {h l d : Nat} (hd : d ≤ 64) (hh : h < 2 ^ d) (hl : l < 18446744073709551616) :
    bits .or .u64 (IntKind.u64.wrap ((h : Int) * 2 ^ (64 - d))) ((l : Int) / 2 ^ d) = (((h * 18446744073709551616 + l) / 2 ^ d : Nat) : Int) ∧
    (IntKind.u64.wrap ((l : Int) * 2 ^ (64 - d)) != 0) = decide ((h * 18446744073709551616 + l) % 2 ^ d ≠ 0) := by
  have e : 2 ^ (64 - d) * 2 ^ d = 18446744073709551616 := by rw [← Nat.pow_add, show 64 - d + d = 64 from by omega]
  have hp := Nat.two_pow_pos d
  have hq := Nat.two_pow_pos (64 - d)
  have a1 : h * 2 ^ (64 - d) < 18446744073709551616 := by
    rw [← e, Nat.mul_comm (2 ^ (64 - d))]; exact Nat.mul_lt_mul_of_pos_right hh hq
  have a2 : l / 2 ^ d < 2 ^ (64 - d) := (Nat.div_lt_iff_lt_mul hp).2 (by rw [e]; exact hl)
  have e3 : h * 18446744073709551616 + l = l + h * 2 ^ (64 - d) * 2 ^ d := by rw [Nat.mul_assoc, e]; omega
  constructor
  · have w1 : IntKind.u64.wrap ((h : Int) * 2 ^ (64 - d)) = (h : Int) * 2 ^ (64 - d) := by
      rw [cast_pow, IntKind.wrap_u64]; omega
    have a3 : (h + 1) * 2 ^ (64 - d) ≤ 18446744073709551616 := by
      rw [← e, Nat.mul_comm (2 ^ (64 - d))]; exact Nat.mul_le_mul_right _ (by omega)
    rw [Nat.add_mul, Nat.one_mul] at a3
    have a4 : (l : Int) / 2 ^ d < 2 ^ (64 - d) := by
      rw [cast_div, show (2 : Int) ^ (64 - d) = ((2 ^ (64 - d) : Nat) : Int) from by rw [Int.natCast_pow]; rfl]
      exact Int.ofNat_lt.2 a2
    rw [w1, or_add (A := (h : Int)) (b := (l : Int) / 2 ^ d) (s := 64 - d) (by omega) (by rw [cast_div]; exact Int.natCast_nonneg _) a4 (by rw [cast_div, cast_pow]; omega), cast_pow, cast_div, e3, Nat.add_mul_div_right _ _ hp]
    omega
  · have e4 : (h * 18446744073709551616 + l) % 2 ^ d = l % 2 ^ d := by rw [e3, Nat.add_mul_mod_self_right]
    have e5 : l * 2 ^ (64 - d) % 18446744073709551616 = l % 2 ^ d * 2 ^ (64 - d) := by
      rw [← e, Nat.mul_comm (2 ^ (64 - d)) (2 ^ d), Nat.mul_mod_mul_right]
    rw [e4, cast_pow, IntKind.wrap_u64]
    have e6 : ((l * 2 ^ (64 - d) : Nat) : Int) % 18446744073709551616 = ((l % 2 ^ d * 2 ^ (64 - d) : Nat) : Int) := by rw [← e5]; omega
    rw [e6]
    by_cases c : l % 2 ^ d = 0
    · rw [c]; simp
    · have : 0 < l % 2 ^ d * 2 ^ (64 - d) := Nat.mul_pos (by omega) hq
      have h1 : (((l % 2 ^ d * 2 ^ (64 - d) : Nat) : Int) != 0) = true := by simp only [bne_iff_ne]; omega
      rw [h1, decide_eq_true c]
theorem or_one {q : Nat} (h : q < 18446744073709551616) : bits .or .u64 (q : Int) 1 = ((q / 2 * 2 + 1 : Nat) : Int) := by
  have := u64_or_nat q 1 h (by decide)
  rw [show (((1 : Nat)) : Int) = 1 from rfl] at this
  rw [this]
  have e : q ||| 1 = q / 2 * 2 + 1 := by
    rcases Nat.mod_two_eq_zero_or_one q with h0 | h0
    · have := Nat.shiftLeft_add_eq_or_of_lt (show 1 < 2 ^ 1 by decide) (q / 2)
      rw [Nat.shiftLeft_eq, show 2 ^ 1 = 2 from rfl, show q / 2 * 2 = q from by omega] at this
      omega
    · have h2 := Nat.shiftLeft_add_eq_or_of_lt (show 1 < 2 ^ 1 by decide) (q / 2)
      rw [Nat.shiftLeft_eq, show 2 ^ 1 = 2 from rfl] at h2
      have h3 : q = q / 2 * 2 ||| 1 := by omega
      conv => lhs; rw [h3]
      rw [Nat.or_assoc, Nat.or_self]
      omega
  rw [e]
theorem nearest_int (n : Nat) : floatOfInt .f64 (n : Int) = Ieee.double.nearest false n 0 := by
  show Ieee.double.nearest (decide ((n : Int) < 0)) (n : Int).natAbs 0 = _
  rw [decide_eq_false (by omega), Int.natAbs_natCast]

set_option maxHeartbeats 1000000 in
theorem sfloat_hi (h l : Nat) (w : World) (h0 : 0 < h) (h1 : h < 18446744073709551616) (h2 : l < 18446744073709551616) :
    Calls Try.prog 26 #[.agg #[.int .u64 (h : Int), .int .u64 (l : Int)]] w fun e w' => e = .returned (.float .f64 (Ieee.double.nearest false (h * 18446744073709551616 + l) 0)) ∧ Gr w w' := by
  obtain ⟨d1, d2, d3, d4⟩ := len_bd h1 h0
  have HB : Hid (∀ w, Calls Try.prog 35 #[.agg #[.int .u64 (h : Int), .int .u64 (l : Int)]] w fun e w' => e = .returned (.int .i64 (64 + (Lib.bitLen h : Int))) ∧ Gr w w') := fun w => bitlen_hi h l w h0 h1
  generalize Lib.bitLen h = d at *
  have hA1 : 2 ^ (63 + d) ≤ h * 18446744073709551616 + l := by
    have e : 2 ^ (63 + d) = 2 ^ (d - 1) * 18446744073709551616 := by rw [show 63 + d = d - 1 + 64 from by omega, Nat.pow_add]
    have := Nat.mul_le_mul_right 18446744073709551616 d3
    omega
  have hA2 : h * 18446744073709551616 + l < 2 ^ (64 + d) := by
    have e : 2 ^ (64 + d) = 2 ^ d * 18446744073709551616 := by rw [Nat.pow_add]; omega
    have := Nat.mul_le_mul_right 18446744073709551616 (show h + 1 ≤ 2 ^ d from d4)
    omega
  obtain ⟨M, E, hN, hE, n1, n2⟩ := nearest_shift hA1 hA2 d2
  obtain ⟨t1, t2⟩ := top_words d2 d4 h2
  obtain ⟨s1, s2⟩ := sticky_bd hA1 hA2
  have hQ : (h * 18446744073709551616 + l) / 2 ^ d < 18446744073709551616 := (Nat.div_lt_iff_lt_mul (Nat.two_pow_pos d)).2 (by rw [← show 2 ^ 64 * 2 ^ d = 18446744073709551616 * 2 ^ d from rfl, ← Nat.pow_add]; exact hA2)
  rw [n2]
  have T1 : Hid (bits .or .u64 (IntKind.u64.wrap ((h : Int) * 2 ^ (64 - d))) ((l : Int) / 2 ^ d) = (((h * 18446744073709551616 + l) / 2 ^ d : Nat) : Int)) := t1
  have N1 : Hid (floatOfInt .f64 ((sticky (h * 18446744073709551616 + l) d : Nat) : Int) = fw false M E) := by unfold Hid; rw [nearest_int]; exact n1
  have O1 : Hid (bits .or .u64 (((h * 18446744073709551616 + l) / 2 ^ d : Nat) : Int) 1 = (((h * 18446744073709551616 + l) / 2 ^ d / 2 * 2 + 1 : Nat) : Int)) := or_one hQ
  clear n1 n2 t1 hA1 hA2 d3 d4 s1 s2
  go_enter Try.func26, Try.ntmps26
  go_wp2_with fail
  refine (HB.out _).mono ?_
  rintro e w1 ⟨rfl, g1⟩
  have k := (Bx.new w 45 (.int .u64 (h : Int)) (.int .u64 (l : Int))).gr g1
  have hG := ((Gr.refl _).alloc _).trans g1
  clear HB g1
  have c0 := k.c0
  have c1 := k.c1
  go_upto_region 4 with fail
  rw [show (64 : Int) + (d : Int) - 64 = (d : Int) from by omega]
  have g0 := dgr c0
  have g1 := dgr c1
  refine wp_region_quiet_grown (by kernel_rfl) (by kernel_rfl) ?_
  repeat (go_big_quiet_step (fail))
  refine wpQuiet_nil ?_
  intro _ hw'
  obtain ⟨⟨nq, osq⟩, hw''⟩ := hw'
  subst hw''
  have hg : Gr w1 (grow (w1.drewN nq) osq) := ⟨nq, osq, rfl⟩
  replace hG := hG.trans hg
  replace k := k.gr hg
  clear g0 g1 c0 c1 hg
  generalize grow (w1.drewN nq) osq = W at *
  have c0 := k.c0
  have c1 := k.c1
  rw [T1.out]
  clear T1
  by_cases c : (h * 18446744073709551616 + l) % 2 ^ d = 0
  · have c' : (IntKind.u64.wrap ((l : Int) * 2 ^ (64 - d)) != 0) = false := by rw [t2, decide_eq_false (by simpa using c)]
    have S : sticky (h * 18446744073709551616 + l) d = (h * 18446744073709551616 + l) / 2 ^ d := by unfold sticky; rw [if_pos c]
    rw [S] at N1
    clear t2 c O1 S
    generalize (h * 18446744073709551616 + l) / 2 ^ d = Q at *
    go_wp2_with (go_at_call 24; rw [N1.out]; refine (ldexp_any M E (E + d) (d : Int) _ hN (by omega) (by omega)).mono ?_; rintro e w' ⟨rfl, rfl⟩)
    go_ret
    exact ⟨rfl, hG⟩
  · have c' : (IntKind.u64.wrap ((l : Int) * 2 ^ (64 - d)) != 0) = true := by rw [t2, decide_eq_true c]
    have S : sticky (h * 18446744073709551616 + l) d = (h * 18446744073709551616 + l) / 2 ^ d / 2 * 2 + 1 := by unfold sticky; rw [if_neg c]
    rw [← S] at O1
    clear t2 c S
    generalize (h * 18446744073709551616 + l) / 2 ^ d = Q at *
    generalize sticky (h * 18446744073709551616 + l) d = Z at *
    go_wp2_with (go_at_call 24; rw [O1.out, N1.out]; refine (ldexp_any M E (E + d) (d : Int) _ hN (by omega) (by omega)).mono ?_; rintro e w' ⟨rfl, rfl⟩)
    go_ret
    exact ⟨rfl, hG⟩

theorem sfloat_any (A : Nat) (w : World) (hA : A < 340282366920938463463374607431768211456) :
    Calls Try.prog 26 #[.agg #[.int .u64 ((A / 18446744073709551616 : Nat) : Int), .int .u64 ((A % 18446744073709551616 : Nat) : Int)]] w fun e w' => e = .returned (.float .f64 (Ieee.double.nearest false A 0)) ∧ Gr w w' := by
  by_cases h : A / 18446744073709551616 = 0
  · have e : A % 18446744073709551616 = A := by omega
    rw [h, e]
    exact sfloat_lo A w (by omega)
  · have e : A / 18446744073709551616 * 18446744073709551616 + A % 18446744073709551616 = A := by omega
    have := sfloat_hi (A / 18446744073709551616) (A % 18446744073709551616) w (by omega) (by omega) (by omega)
    rw [e] at this
    exact this
theorem neg_run (X : Nat) (w : World) : (Op.unary .neg (.float .f64 X)).run Try.prog w = .ok (.float .f64 (Op.negFloat .f64 X)) w := rfl
/-- The real number that is nearest. -/
def flI (m : Int) : Nat := if m < 0 then Op.negFloat .f64 (Ieee.double.nearest false m.natAbs 0) else Ieee.double.nearest false m.natAbs 0
theorem abs_words (m : Int) : absI m / 18446744073709551616 = ((m.natAbs / 18446744073709551616 : Nat) : Int) ∧ absI m % 18446744073709551616 = ((m.natAbs % 18446744073709551616 : Nat) : Int) := by
  unfold absI; split <;> omega

set_option maxHeartbeats 1000000 in
theorem wfloat_any (m : Int) (hm : inI m) (w : World) :
    Calls Try.prog 12 #[.agg #[.int .i64 (hiI m), .int .u64 (loI m)]] w fun e w' => e = .returned (.float .f64 (flI m)) ∧ Gr w w' := by
  obtain ⟨e1, e2⟩ := abs_words m
  have hA : m.natAbs < 340282366920938463463374607431768211456 := by unfold inI at hm; omega
  have x1 : Hid (∀ w, Calls Try.prog 18 #[.agg #[.int .i64 (hiI m), .int .u64 (loI m)]] w fun e w' => e = .returned (.agg #[.int .u64 ((m.natAbs / 18446744073709551616 : Nat) : Int), .int .u64 ((m.natAbs % 18446744073709551616 : Nat) : Int)]) ∧ Gr w w') := fun w => by
    have h1 := wsize_any m hm w
    rw [e1, e2] at h1
    exact h1
  have x2 : Hid (∀ w, Calls Try.prog 26 #[.agg #[.int .u64 ((m.natAbs / 18446744073709551616 : Nat) : Int), .int .u64 ((m.natAbs % 18446744073709551616 : Nat) : Int)]] w fun e w' => e = .returned (.float .f64 (Ieee.double.nearest false m.natAbs 0)) ∧ Gr w w') := fun w => sfloat_any m.natAbs w hA
  have k0 : Bx (w.alloc (.cells #[.int .i64 (hiI m), .int .u64 (loI m)] 24)) 24 w.heap.size (.int .i64 (hiI m)) (.int .u64 (loI m)) := Bx.new w 24 _ _
  have hG : Gr w (w.alloc (.cells #[.int .i64 (hiI m), .int .u64 (loI m)] 24)) := (Gr.refl _).alloc _
  have sg : m < 0 ↔ hiI m < 0 := by unfold inI hiI at *; omega
  clear e1 e2 hA hm
  by_cases hn : m < 0
  · have hn' := sg.1 hn
    have E : Hid (flI m = Op.negFloat .f64 (Ieee.double.nearest false m.natAbs 0)) := by unfold Hid flI; rw [if_pos hn]
    clear sg hn
    generalize Ieee.double.nearest false m.natAbs 0 = X at *
    generalize m.natAbs / 18446744073709551616 = H at *
    generalize m.natAbs % 18446744073709551616 = L at *
    go_enter Try.func12, Try.ntmps12
    go_upto_region 2 with (first
      | (go_at_call 18; refine (x1.out _).mono ?_; rintro e w1 ⟨rfl, g1⟩)
      | (go_at_call 26; refine (x2.out _).mono ?_; rintro e w2 ⟨rfl, g2⟩))
    replace k0 := k0.gr (g1.trans g2)
    replace hG := hG.trans (g1.trans g2)
    have c0 := k0.c0
    clear x1 x2
    have R := neg_run X
    go_wp2
    go_ret
    exact ⟨by rw [E.out]; rfl, hG⟩
  · have hn' : 0 ≤ hiI m := by omega
    have E : Hid (flI m = Ieee.double.nearest false m.natAbs 0) := by unfold Hid flI; rw [if_neg hn]
    clear sg hn
    generalize Ieee.double.nearest false m.natAbs 0 = X at *
    generalize m.natAbs / 18446744073709551616 = H at *
    generalize m.natAbs % 18446744073709551616 = L at *
    go_enter Try.func12, Try.ntmps12
    go_upto_region 2 with (first
      | (go_at_call 18; refine (x1.out _).mono ?_; rintro e w1 ⟨rfl, g1⟩)
      | (go_at_call 26; refine (x2.out _).mono ?_; rintro e w2 ⟨rfl, g2⟩))
    replace k0 := k0.gr (g1.trans g2)
    replace hG := hG.trans (g1.trans g2)
    have c0 := k0.c0
    clear x1 x2
    go_wp2
    go_ret
    exact ⟨by rw [E.out]; rfl, hG⟩
end Go.Proofs.Ytgpkigofbncamab
