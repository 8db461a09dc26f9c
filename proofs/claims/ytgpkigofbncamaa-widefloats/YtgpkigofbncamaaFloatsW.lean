/- The law WideFloats, walked: for any number of 128 bits and any real number, by its word, the call returns true, and the memory that was there is as it was. -/
import Derived.Test.YtgpkigofbncamaaRFrom
import Derived.Test.YtgpkigofbncamaaRFlt
import Derived.Test.YtgpkigofbncamaaAdds
namespace Go.Proofs.Ytgpkigofbncamaa
open Go.RowKit Go.Sort

theorem nearest_top (A : Nat) (p : Int) : Ieee.double.nearest false A p ≤ 9218868437227405312 := by
  unfold Ieee.Format.nearest Ieee.Format.word
  rw [dbl_inf]
  split
  · simp
  · simp only [Bool.false_eq_true, if_false]
    exact Nat.min_le_right _ _
theorem flI_ok (m : Int) : flI m < 18446744073709551616 ∧ ¬ isN (flI m) := by
  have h := nearest_top m.natAbs 0
  unfold flI isN
  generalize Ieee.double.nearest false m.natAbs 0 = X at *
  split
  · have e : (X ^^^ 2 ^ 63) % 2 ^ 63 = X := by
      rw [Nat.xor_mod_two_pow, Nat.mod_self, Nat.xor_zero, Nat.mod_eq_of_lt (by omega)]
    have h1 : Op.negFloat .f64 X = X ^^^ 2 ^ 63 := rfl
    have h2 : X ^^^ 2 ^ 63 < 2 ^ 64 := Nat.xor_lt_two_pow (by omega) (by omega)
    rw [h1]
    have h3 : (X ^^^ 2 ^ 63) % 9223372036854775808 = X := e
    omega
  · omega
/-- A real number's bits; of both noughts the same. -/
def bitsI (f : Nat) : Int := if (FloatKind.f64.format.order f 0 == some .eq) = true then 0 else (f : Int)
set_option maxHeartbeats 400000 in
theorem bits_any (f : Nat) (w : World) (hb : f < 18446744073709551616) (h : ¬ isN f) :
    Calls Try.prog 39 #[.float .f64 f] w fun e w' => e = .returned (.int .u64 (bitsI f)) ∧ w' = w := by
  have o : FloatKind.f64.format.order f f = some .eq := order_same hb h
  have E : Hid (bitsI f = if (FloatKind.f64.format.order f 0 == some .eq) = true then 0 else (f : Int)) := rfl
  clear h hb
  generalize hB : (FloatKind.f64.format.order f 0 == some .eq) = B at *
  cases B with
  | true =>
    have E' : Hid (bitsI f = 0) := by unfold Hid; rw [E.out]; simp
    go_enter Try.func39, Try.ntmps39
    go_wp2
    go_ret
    exact ⟨by rw [E'.out]; rfl, rfl⟩
  | false =>
    have E' : Hid (bitsI f = (f : Int)) := by unfold Hid; rw [E.out]; simp
    go_enter Try.func39, Try.ntmps39
    go_wp2_with (simp only [run66])
    go_ret
    exact ⟨by rw [E'.out]; rfl, rfl⟩

theorem wfrom_all (b : Nat) (w : World) (hb : b < 18446744073709551616) :
    Calls Try.prog 43 #[.float .f64 b] w fun e w' => e = .returned (.tuple #[.agg #[.int .i64 (hiI (ffT b)), .int .u64 (loI (ffT b))], .int .i64 (ffE b)]) ∧ Gr w w' := by
  unfold ffT ffE
  by_cases h : 9218868437227405312 < b % 9223372036854775808
  · rw [if_pos h, if_pos h, hiI_zero, loI_zero]
    exact wfrom_nan b w h
  · rw [if_neg h, if_neg h]
    by_cases hw : (5179139571476070400 ≤ b ∧ b < 9223372036854775808) ∨ 14402511608330846208 < b
    · rw [if_pos hw, if_pos hw, hiI_zero, loI_zero]
      exact wfrom_wide b w hb h hw
    · rw [if_neg hw, if_neg hw]
      exact wfrom_any b w hb h hw
theorem rfrom_all (b : Nat) (w : World) (hb : b < 18446744073709551616) :
    Calls Try.prog 44 #[.float .f64 b] w fun e w' => ∃ z, e = .returned (.tuple #[z, .int .i64 (ffE b)]) ∧ Nm w' z (ffT b) ∧ Below w.heap.size w w' := by
  by_cases h : isN b
  · have h' : 9218868437227405312 < b % 9223372036854775808 := h
    have e1 : ffT b = 0 := by unfold ffT; rw [if_pos h']
    have e2 : ffE b = 2 := by unfold ffE; rw [if_pos h']
    rw [e1, e2]
    exact rfrom_nan b w h
  · exact rfrom_any b w hb h
theorem ffT_in {b : Nat} (hb : b < 18446744073709551616) : inI (ffT b) := by
  unfold ffT
  by_cases h : 9218868437227405312 < b % 9223372036854775808
  · rw [if_pos h]; exact inI_zero
  · rw [if_neg h]
    by_cases hw : (5179139571476070400 ≤ b ∧ b < 9223372036854775808) ∨ 14402511608330846208 < b
    · rw [if_pos hw]; exact inI_zero
    · rw [if_neg hw]
      have hf : fin b := ⟨hb, by omega⟩
      exact Classical.not_not.1 fun hc => hw ((wide_in hf).2 hc)

set_option maxRecDepth 20000 in
set_option maxHeartbeats 4000000 in
theorem floats_walk (m : Int) (b : Nat) (hm : inI m) (hb : b < 18446744073709551616) (w : World) :
    Calls Try.prog 6 #[.agg #[.int .i64 (hiI m), .int .u64 (loI m)], .int .u64 (b : Int)] w fun e w' => e = .returned (.bool true) ∧ Below w.heap.size w w' := by
  have HM : Hid (inI m) := hm
  obtain ⟨f1, f2⟩ := flI_ok m
  have HB : Hid (∀ w, Calls Try.prog 39 #[.float .f64 (flI m)] w fun e w' => e = .returned (.int .u64 (bitsI (flI m))) ∧ w' = w) := fun w => bits_any (flI m) w f1 f2
  have HW : Hid (∀ w, Calls Try.prog 43 #[.float .f64 b] w fun e w' => e = .returned (.tuple #[.agg #[.int .i64 (hiI (ffT b)), .int .u64 (loI (ffT b))], .int .i64 (ffE b)]) ∧ Gr w w') := fun w => wfrom_all b w hb
  have HR : Hid (∀ w, Calls Try.prog 44 #[.float .f64 b] w fun e w' => ∃ z, e = .returned (.tuple #[z, .int .i64 (ffE b)]) ∧ Nm w' z (ffT b) ∧ Below w.heap.size w w') := fun w => rfrom_all b w hb
  have hT := ffT_in hb
  have T1 : Hid (-p2 6000 < ffT b ∧ ffT b < p2 6000) := by unfold inI at hT; exact small_in (by omega) (by omega)
  clear hm f1 f2 hb hT
  generalize bitsI (flI m) = BI at *
  generalize ffE b = FE at *
  have hG := ((Gr.refl w).alloc (.cells #[.int .i64 (hiI m), .int .u64 (loI m)] 24)).below
  have k0 : Bx (w.alloc (.cells #[.int .i64 (hiI m), .int .u64 (loI m)] 24)) 24 w.heap.size (.int .i64 (hiI m)) (.int .u64 (loI m)) := Bx.new w 24 _ _
  go_enter Try.func6, Try.ntmps6
  go_upto_region 1 with fail
  generalize w.alloc (.cells #[.int .i64 (hiI m), .int .u64 (loI m)] 24) = W at *
  have x0 := k0.c0
  have x1 := k0.c1
  have hS0 : Hid (S2 ⟨w.heap.size, 0, none⟩ ⟨w.heap.size, 1, none⟩ (.int .i64 (hiI m)) (.int .u64 (loI m)) W W.drew) := ⟨x0, x1, (Below.refl _ _).drew⟩
  go_region_held3 (S2 ⟨w.heap.size, 0, none⟩ ⟨w.heap.size, 1, none⟩ (.int .i64 (hiI m)) (.int .u64 (loI m)) W)
    (first | assumption | with_reducible exact hS0.out | exact S2.call (by assumption) (by assumption))
    (first
      | (go_at_call 8; refine (of_any (hiI m) (loI m) _).mono ?_; rintro e w1 ⟨rfl, g1⟩; have hb1 := g1.below)
      | (go_at_call 40; refine (wfloat_any m HM.out _).mono ?_; rintro e w2 ⟨rfl, g2⟩; have hb2 := g2.below)
      | (go_at_call 39; refine (HB.out _).mono ?_; rintro e w' ⟨rfl, rfl⟩)
      | (go_at_call 9; refine (num_in m HM.out _).mono ?_; rintro e w3 ⟨z, rfl, hz, hb3⟩; obtain ⟨r3, o3, l3, c3, rfl, hz3⟩ := hz.shape; clear hz)
      | (go_at_call 41; refine (rfloat_num _ m _ hz3.out HM.out).mono ?_; rintro e w4 ⟨rfl, hb4⟩))
  have hbW : Below W.heap.size W w' := (by assumption : S2 ⟨w.heap.size, 0, none⟩ ⟨w.heap.size, 1, none⟩ (.int .i64 (hiI m)) (.int .u64 (loI m)) W w').2.2
  replace hG := hG.trans (hbW.mono hG.size)
  clear hS0 hbW x0 x1 k0 HB hb1 hb2 hb3 hb4 hz3
  go_upto_region 5 with (first
    | simp only [run42]
    | (go_at_call 43; (try rw [Int.toNat_natCast]); refine (HW.out _).mono ?_; rintro e w5 ⟨rfl, g5⟩))
  have k6 := Bx.new w5 25 (.int .i64 (hiI (ffT b))) (.int .u64 (loI (ffT b)))
  have g6 := g5.alloc (.cells #[.int .i64 (hiI (ffT b)), .int .u64 (loI (ffT b))] 25)
  replace hG := hG.trans (g6.below.mono hG.size)
  clear g5 g6 HW
  generalize w5.alloc (.cells #[.int .i64 (hiI (ffT b)), .int .u64 (loI (ffT b))] 25) = W6 at *
  generalize w5.heap.size = X6 at *
  go_upto_region 6 with (go_at_call 44; (try rw [Int.toNat_natCast]); refine (HR.out _).mono ?_; rintro e w7 ⟨z, rfl, hz, hb7⟩; obtain ⟨r7, o7, l7, c7, rfl, hz7⟩ := hz.shape; clear hz)
  have hb8 : Below W6.heap.size W6 (w7.alloc (.cells #[.bool r7, .slice o7 l7 c7] 29)) := hb7.trans (((Gr.refl _).alloc _).below.mono hb7.size)
  have k8 := Bk.new w7 (.bool r7) (.slice o7 l7 c7)
  have N8 : Hid (Nm (w7.alloc (.cells #[.bool r7, .slice o7 l7 c7] 29)) (.agg #[.bool r7, .slice o7 l7 c7]) (ffT b)) := hmono hz7 ((Gr.refl _).alloc _).below
  replace k6 := k6.mono hb8 k6.lt
  replace hG := hG.trans (hb8.mono hG.size)
  clear hb7 hb8 hz7 HR
  generalize w7.alloc (.cells #[.bool r7, .slice o7 l7 c7] 29) = W8 at *
  generalize w7.heap.size = X8 at *
  have c0 := k6.c0
  have c1 := k6.c1
  have d0 := k8.c0
  have d1 := k8.c1
  go_wp2_with (go_at_call 10; refine (is_any _ (ffT b) _ N8.out T1.out.1 T1.out.2).mono ?_; rintro e w9 ⟨rfl, hb9⟩)
  go_ret
  exact ⟨rfl, hG.trans (hb9.mono hG.size)⟩
end Go.Proofs.Ytgpkigofbncamaa
