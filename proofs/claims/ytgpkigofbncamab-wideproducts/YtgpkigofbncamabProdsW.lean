/- The law WideProducts, walked: for any three numbers of 64 bits the call returns true, and the memory that was there is as it was. -/
import Derived.Test.YtgpkigofbncamabProdsP
namespace Go.Proofs.Ytgpkigofbncamab
open Go.RowKit Go.Sort

set_option maxRecDepth 20000 in
set_option maxHeartbeats 4000000 in
theorem prods_walk (a b c : Int) (w : World) (ha0 : -9223372036854775808 ≤ a) (ha1 : a ≤ 9223372036854775807) (hb0 : -9223372036854775808 ≤ b) (hb1 : b ≤ 9223372036854775807) (hc0 : -9223372036854775808 ≤ c) (hc1 : c ≤ 9223372036854775807) :
    Calls Try.prog 3 #[.int .i64 a, .int .i64 b, .int .i64 c] w fun e w' => e = .returned (.bool true) ∧ Gr w w' := by
  have M0 : Hid (∀ x y w, (-9223372036854775808 ≤ x ∧ x ≤ 9223372036854775807) → (-9223372036854775808 ≤ y ∧ y ≤ 9223372036854775807) → Calls Try.prog 4 #[.int .i64 x, .int .i64 y] w fun e w' => e = .returned (.agg #[.int .i64 (hiI (x * y)), .int .u64 (loI (x * y))]) ∧ Gr w w') := fun x y w hx hy => wmul_any x y w hx.1 hx.2 hy.1 hy.2
  have e1 : b * a = a * b := Int.mul_comm b a
  have e2 : a * c + a * b = a * b + a * c := Int.add_comm _ _
  have e3 : -1 * a = -a := by omega
  have e4 : 1 * a = a := by omega
  go_enter Try.func3, Try.ntmps3
  go_upto_region 2 with (go_at_call 4; refine (wmul_any a b _ ha0 ha1 hb0 hb1).mono ?_; rintro e w1 ⟨rfl, g1⟩)
  have k7 := Bx.new w1 24 (.int .i64 (hiI (a * b))) (.int .u64 (loI (a * b)))
  have hG := g1.alloc (.cells #[.int .i64 (hiI (a * b)), .int .u64 (loI (a * b))] 24)
  clear g1
  generalize w1.alloc (.cells #[.int .i64 (hiI (a * b)), .int .u64 (loI (a * b))] 24) = W at *
  generalize w1.heap.size = X7 at *
  have x0 := dgr k7.c0
  have x1 := dgr k7.c1
  refine wp_region_quiet_grown (by kernel_rfl) (by kernel_rfl) ?_
  repeat (go_big_quiet_step (first
    | (go_at_call 4; refine Calls.grown_of (M0.out _ _ _ ⟨by omega, by omega⟩ ⟨by omega, by omega⟩))
    | (go_at_call 5; refine Calls.grown_of (add_any _ _ _))
    | (go_at_call 6; refine Calls.grown_of (wof_any a _ ha0 ha1))
    | (go_at_call 7; refine Calls.grown_of (neg_any a _))))
  refine wpQuiet_nil ?_
  intro _ hw'
  obtain ⟨⟨nq, osq⟩, hw''⟩ := hw'
  subst hw''
  replace hG := hG.trans ⟨nq, osq, rfl⟩
  clear x0 x1 k7 e1 e2 e3 e4
  generalize grow (W.drewN nq) osq = W2 at *
  go_upto_if 55 with fail
  go_cut [] (fun w' => Gr W2 w')
  case first =>
    by_cases hb : b = 0
    · have hb' : (b != 0) = false := by simp [hb]
      clear hb
      go_wp2
      go_meet
      case rel => exact Gr.refl _
    · have hb' : (b != 0) = true := by simp [hb]
      obtain ⟨t1, t2, t3⟩ := quo_bd ha0 ha1 hb
      have hI : qI a b * b + qR a b = a := quo_id hb
      have hU : qR a b ≤ 18446744073709551615 := by
        unfold qR
        have hD : 0 < absI b ∧ absI b ≤ 9223372036854775808 := by unfold absI; split <;> omega
        have r0 := Int.emod_nonneg (absI a) (show absI b ≠ 0 by omega)
        have r1 := Int.emod_lt_of_pos (absI a) hD.1
        split <;> omega
      have T1 : Hid (inI (qI a b)) := t1
      have HA : Hid (inI a) := by unfold Hid inI; omega
      go_upto_region 6 with (first
        | (go_at_call 6; refine (wof_any a _ ha0 ha1).mono ?_; rintro e w3 ⟨rfl, g3⟩)
        | (go_at_call 8; refine (wquo_any a b HA.out hb0 hb1 hb _).mono ?_; rintro e w4 ⟨rfl, g4⟩))
      have k8 := Bx.new w4 24 (.int .i64 (hiI (qI a b))) (.int .u64 (loI (qI a b)))
      have hg := (g3.trans g4).alloc (.cells #[.int .i64 (hiI (qI a b)), .int .u64 (loI (qI a b))] 24)
      clear g3 g4 t1
      generalize w4.alloc (.cells #[.int .i64 (hiI (qI a b)), .int .u64 (loI (qI a b))] 24) = W4 at *
      generalize w4.heap.size = X8 at *
      have x0 := k8.c0
      have x1 := k8.c1
      by_cases hr : -9223372036854775808 ≤ qI a b ∧ qI a b ≤ 9223372036854775807
      · have I1 : Hid (∀ w, Calls Try.prog 9 #[.agg #[.int .i64 (hiI (qI a b)), .int .u64 (loI (qI a b))]] w fun e w' => e = .returned (.tuple #[.int .i64 (qI a b), .bool true]) ∧ Gr w w') := fun w => by
          have h := int64_any (qI a b) T1.out w
          rw [if_pos hr, decide_eq_true hr] at h
          exact h
        clear t3 T1
        generalize qI a b = Q at *
        generalize qR a b = R at *
        go_upto_region 7 with (go_at_call 9; refine (I1.out _).mono ?_; rintro e w5 ⟨rfl, g5⟩)
        replace hg := hg.trans g5
        clear g5 x0 x1 k8 I1 HA
        go_wp2_with (first
          | (go_at_call 4; refine (M0.out _ _ _ ⟨by omega, by omega⟩ ⟨by omega, by omega⟩).mono ?_; rintro e w6 ⟨rfl, g6⟩)
          | (go_at_call 10; refine (wuns_any R _ t2 hU).mono ?_; rintro e w7 ⟨rfl, g7⟩)
          | (go_at_call 5; refine (add_any _ _ _).mono ?_; rintro e w8 ⟨rfl, g8⟩)
          | (go_at_call 6; refine (wof_any a _ ha0 ha1).mono ?_; rintro e w9 ⟨rfl, g9⟩))
        go_meet
        case rel => exact (((hg.trans g6).trans g7).trans g8).trans g9
      · have I2 : Hid (∀ w, Calls Try.prog 9 #[.agg #[.int .i64 (hiI (qI a b)), .int .u64 (loI (qI a b))]] w fun e w' => e = .returned (.tuple #[.int .i64 0, .bool false]) ∧ Gr w w') := fun w => by
          have h := int64_any (qI a b) T1.out w
          rw [if_neg hr, decide_eq_false hr] at h
          exact h
        obtain ⟨z1, z2⟩ := t3 hr
        have y1 : (b != -1) = false := by simp [z1]
        have y2 : (a != -9223372036854775808) = false := by simp [z2]
        clear t3 hr hI t2 hU hb' T1 HA z1 z2 M0
        generalize qI a b = Q at *
        go_upto_region 7 with (go_at_call 9; refine (I2.out _).mono ?_; rintro e w5 ⟨rfl, g5⟩)
        replace hg := hg.trans g5
        clear g5 x0 x1 k8 I2
        go_wp2
        go_meet
        case rel => exact hg
  case rest =>
    replace hG := hG.trans hcut
    have s0 : -4503599627370496 ≤ a / 2048 := by omega
    have s1 : a / 2048 ≤ 4503599627370496 := by omega
    have HS : Hid (-4503599627370496 ≤ a / 2048 ∧ a / 2048 ≤ 4503599627370496) := ⟨s0, s1⟩
    obtain ⟨b1, b2, b3, b4⟩ := small_back s0 s1
    have HF : Hid (∀ w, Calls Try.prog 11 #[.float .f64 (flI (a / 2048))] w fun e w' => e = .returned (.tuple #[.agg #[.int .i64 (hiI (a / 2048)), .int .u64 (loI (a / 2048))], .int .i64 0]) ∧ Gr w w') := fun w => by
      have h := wfrom_any (flI (a / 2048)) w b1 b2 b3
      rw [b4] at h
      exact h
    have HL : Hid (∀ w, Calls Try.prog 12 #[.agg #[.int .i64 (hiI (a / 2048)), .int .u64 (loI (a / 2048))]] w fun e w' => e = .returned (.float .f64 (flI (a / 2048))) ∧ Gr w w') := fun w => wfloat_any (a / 2048) (by unfold inI; omega) w
    have HO : Hid (∀ w, Calls Try.prog 6 #[.int .i64 (a / 2048)] w fun e w' => e = .returned (.agg #[.int .i64 (hiI (a / 2048)), .int .u64 (loI (a / 2048))]) ∧ Gr w w') := fun w => wof_any (a / 2048) w (by omega) (by omega)
    clear b1 b2 b3 b4 hcut
    go_upto_region 11 with (first
      | (go_at_call 6; refine (HO.out _).mono ?_; rintro e w3 ⟨rfl, g3⟩)
      | (go_at_call 12; refine (HL.out _).mono ?_; rintro e w4 ⟨rfl, g4⟩)
      | (go_at_call 11; refine (HF.out _).mono ?_; rintro e w5 ⟨rfl, g5⟩))
    have k := Bx.new w5 24 (.int .i64 (hiI (a / 2048))) (.int .u64 (loI (a / 2048)))
    have hg := ((g3.trans g4).trans g5).alloc (.cells #[.int .i64 (hiI (a / 2048)), .int .u64 (loI (a / 2048))] 24)
    replace hG := hG.trans hg
    clear g3 g4 g5 hg HL HF
    generalize w5.alloc (.cells #[.int .i64 (hiI (a / 2048)), .int .u64 (loI (a / 2048))] 24) = W6 at *
    generalize w5.heap.size = X6 at *
    have x0 := dgr k.c0
    have x1 := dgr k.c1
    refine wp_region_quiet_grown (by kernel_rfl) (by kernel_rfl) ?_
    repeat (go_big_quiet_step ((go_at_call 6; refine Calls.grown_of (HO.out _))))
    refine wpQuiet_nil ?_
    intro _ hw'
    obtain ⟨⟨nq', osq'⟩, hw''⟩ := hw'
    subst hw''
    replace hG := hG.trans ⟨nq', osq', rfl⟩
    clear x0 x1 k
    go_wp2
    go_ret
    exact ⟨rfl, hG⟩
end Go.Proofs.Ytgpkigofbncamab
