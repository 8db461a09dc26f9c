/- Contracts of Float on both sides. -/
import Derived.Test.YtomklacjaadcaaaDoorRef3
import Derived.Test.YtomklacjaadcaaaDoorKey
namespace Go.Proofs.YtomklacjaadcaaaDoor
open Go.RowKit Go.Sort

theorem run59 (b : Nat) (w : World) : (callFunc 59 #[.float .f64 b]).run Tryd.prog w = .ok (.value (.int .u64 (b : Int))) w := by
  rw [run_callFunc_extern Tryd.func59 (by kernel_rfl) (by kernel_rfl) (by kernel_rfl) (e := Extern.MathFloatBits.float64bits) (by kernel_rfl)]
  rfl
theorem run42 (n : Int) (w : World) : (callFunc 42 #[.int .u64 n]).run Tryd.prog w = .ok (.value (.float .f64 n.toNat)) w := by
  rw [run_callFunc_extern Tryd.func42 (by kernel_rfl) (by kernel_rfl) (by kernel_rfl) (e := Extern.MathFloatBits.float64frombits) (by kernel_rfl)]
  rfl
theorem self_num {b : Nat} (hb : b < 18446744073709551616) (h : ¬ isN b) : FloatKind.f64.format.order b b = some .eq := by
  show Ieee.double.order b b = some .eq
  rw [order_num hb hb h h]
  simp
theorem self_nan {b : Nat} (h : isN b) : FloatKind.f64.format.order b b = none := order_nan_l b h
set_option maxRecDepth 20000 in
set_option maxHeartbeats 1600000 in
theorem isnan_yes (b : Nat) (h : isN b) (w : World) : Calls Tryd.prog 84 #[.float .f64 b] w fun e w' => e = .returned (.bool true) ∧ w' = w := by
  have o := self_nan h
  clear h
  go_enter Tryd.func84, Tryd.ntmps84
  go_wp2
  go_ret
  exact ⟨rfl, rfl⟩
set_option maxRecDepth 20000 in
set_option maxHeartbeats 1600000 in
theorem isnan_no (b : Nat) (hb : b < 18446744073709551616) (h : ¬ isN b) (w : World) : Calls Tryd.prog 84 #[.float .f64 b] w fun e w' => e = .returned (.bool false) ∧ w' = w := by
  have o := self_num hb h
  clear h hb
  go_enter Tryd.func84, Tryd.ntmps84
  go_wp2
  go_ret
  exact ⟨rfl, rfl⟩
set_option maxRecDepth 20000 in
set_option maxHeartbeats 3200000 in
theorem float_none (p : Value) (w : World) (Q : World → Prop) (HA : Hid (Calls Tryd.prog 76 #[p, .int .i64 8] w fun e w' => e = .returned (.tuple #[.slice none 0 0, .bool false]) ∧ Q w')) :
    Calls Tryd.prog 58 #[p] w fun e w' => e = .returned (.float .f64 0) ∧ Q w' := by
  go_enter Tryd.func58, Tryd.ntmps58
  go_wp2_with (go_at_call 76; refine HA.out.mono ?_; rintro e w2 ⟨rfl, q2⟩)
  go_ret
  exact ⟨rfl, q2⟩
set_option maxRecDepth 20000 in
set_option maxHeartbeats 3200000 in
theorem float_ok (i b off cap at' : Nat) (l : List UInt8) (h1 : at' + 8 ≤ l.length) (h2 : l.length ≤ cap) (h3 : l.length ≤ 140737488351232) (hok : ¬ isN (num ((l.drop at').take 8)) ∨ num ((l.drop at').take 8) = 9221120237041090561) (w : World) (hR : Row w i 51 (inL (.slice (some ⟨b, off, none⟩) l.length cap) at' 0)) (hb : By w (some ⟨b, off, none⟩) l) :
    Calls Tryd.prog 58 #[.pointer (some ⟨i, 0, none⟩)] w fun e w' => e = .returned (.float .f64 (num ((l.drop at').take 8))) ∧ Row w' i 51 (inL (.slice (some ⟨b, off, none⟩) l.length cap) (at' + 8) 0) ∧ w.grownBy w' (some i) := by
  have HA := hid' (ahead_ok i b off l.length cap at' 8 (by decide) h1 h2 h3 w hR)
  have HR := hid' hR
  have hx := num_lt ((l.drop at').take 8)
  have h4 : ((l.drop at').take 8).length = 8 := by simp; omega
  rw [h4] at hx
  have HB := hid' (hb.piece at' 8)
  have HN := hid' (fun w' (g : Gr w w') => number_at (cap := cap - at') h4 (by decide) (HB.out.mono g.below))
  clear hb hR
  generalize num ((l.drop at').take 8) = X at *
  go_enter Tryd.func58, Tryd.ntmps58
  go_upto_region 6 with (first
    | (go_at_call 76; refine HA.out.mono ?_; rintro e w2 ⟨rfl, g2⟩)
    | (go_at_call 70; refine (HN.out _ g2).mono ?_; rintro e w4 ⟨rfl, rfl⟩)
    | simp only [run42])
  have R2 := HR.out.below g2.below HR.out.lt
  have c1 : w4.cell? ⟨i, 1, none⟩ = some (.int .i64 (at' : Nat)) := R2.cell 1
  have f1 := R2.frozen 1
  have R3 : Hid (Row (w4.setCell ⟨i, 1, none⟩ (.int .i64 ((at' : Nat) + 8))) i 51 (inL (.slice (some ⟨b, off, none⟩) l.length cap) (at' + 8) 0)) := R2.set 1 _
  have G3 : Hid (w.grownBy (w4.setCell ⟨i, 1, none⟩ (.int .i64 ((at' : Nat) + 8))) (some i)) := grown_trans (below_grown g2.below _) (setCells_grown [_] 1 w4)
  clear HB HR R2 g2 HA HN
  by_cases hn : isN X
  · obtain rfl : X = 9221120237041090561 := by rcases hok with h | h; exact absurd hn h; exact h
    have HI := hid' (isnan_yes 9221120237041090561 hn w4)
    clear hn hok
    go_wp2_with (go_at_call 84; refine HI.out.mono ?_; rintro e w5 ⟨rfl, rfl⟩)
    go_ret
    exact ⟨rfl, R3.out, G3.out⟩
  · have HI := hid' (isnan_no X hx hn w4)
    clear hn hok
    go_wp2_with (go_at_call 84; refine HI.out.mono ?_; rintro e w5 ⟨rfl, rfl⟩)
    go_ret
    exact ⟨rfl, R3.out, G3.out⟩
set_option maxRecDepth 20000 in
set_option maxHeartbeats 3200000 in
theorem float_bad (i b off cap at' : Nat) (l : List UInt8) (h1 : at' + 8 ≤ l.length) (h2 : l.length ≤ cap) (h3 : l.length ≤ 140737488351232) (hn : isN (num ((l.drop at').take 8))) (hno : num ((l.drop at').take 8) ≠ 9221120237041090561) (w : World) (hR : Row w i 51 (inL (.slice (some ⟨b, off, none⟩) l.length cap) at' 0)) (hb : By w (some ⟨b, off, none⟩) l) :
    Calls Tryd.prog 58 #[.pointer (some ⟨i, 0, none⟩)] w fun e w' => e = .returned (.float .f64 0) ∧ Row w' i 51 (inL (.slice (some ⟨b, off, none⟩) l.length cap) at' 35) ∧ w.grownBy w' (some i) := by
  have HA := hid' (ahead_ok i b off l.length cap at' 8 (by decide) h1 h2 h3 w hR)
  have HR := hid' hR
  have hx := num_lt ((l.drop at').take 8)
  have h4 : ((l.drop at').take 8).length = 8 := by simp; omega
  rw [h4] at hx
  have HB := hid' (hb.piece at' 8)
  have HN := hid' (fun w' (g : Gr w w') => number_at (cap := cap - at') h4 (by decide) (HB.out.mono g.below))
  clear hb hR
  generalize num ((l.drop at').take 8) = X at *
  have hno1 : ((X : Int) == 9221120237041090561) = false := by simp; omega
  have hno2 : ((X : Int) != 9221120237041090561) = true := by simp; omega
  go_enter Tryd.func58, Tryd.ntmps58
  go_upto_region 6 with (first
    | (go_at_call 76; refine HA.out.mono ?_; rintro e w2 ⟨rfl, g2⟩)
    | (go_at_call 70; refine (HN.out _ g2).mono ?_; rintro e w4 ⟨rfl, rfl⟩)
    | simp only [run42])
  have R2 := HR.out.below g2.below HR.out.lt
  have c2 : w4.cell? ⟨i, 2, none⟩ = some (.int .i64 0) := R2.cell 2
  have f2 := R2.frozen 2
  have R3 : Hid (Row (w4.setCell ⟨i, 2, none⟩ (.int .i64 35)) i 51 (inL (.slice (some ⟨b, off, none⟩) l.length cap) at' 35)) := R2.set 2 _
  have G3 : Hid (w.grownBy (w4.setCell ⟨i, 2, none⟩ (.int .i64 35)) (some i)) := grown_trans (below_grown g2.below _) (setCells_grown [_] 2 w4)
  have HI := hid' (isnan_yes X hn w4)
  clear HB HR R2 g2 HA HN hn
  go_wp2_with (go_at_call 84; refine HI.out.mono ?_; rintro e w5 ⟨rfl, rfl⟩)
  go_ret
  exact ⟨rfl, R3.out, G3.out⟩
/-- The reference's own look at the bits. -/
theorem bits_and (b : Nat) (hb : b < 18446744073709551616) : bits .and .u64 ((b : Int) / 4503599627370496) 2047 = ((b / 4503599627370496 % 2048 : Nat) : Int) := by
  have := u64_and_nat (b / 4503599627370496) 2047 (by omega) (by decide)
  rw [show (2047 : Nat) = 2 ^ 11 - 1 from rfl, Nat.and_two_pow_sub_one_eq_mod] at this
  simpa using this
set_option maxRecDepth 20000 in
set_option maxHeartbeats 1600000 in
theorem none_any (b : Nat) (hb : b < 18446744073709551616) (w : World) : Calls Tryd.prog 86 #[.int .u64 (b : Nat)] w fun e w' => e = .returned (.bool (decide (isN b))) ∧ w' = w := by
  have e1 := bits_and b hb
  have e2 : IntKind.u64.wrap ((b : Int) * 4096) = ((b % 4503599627370496 * 4096 : Nat) : Int) := by rw [IntKind.wrap_u64]; omega
  go_enter Tryd.func86, Tryd.ntmps86
  go_wp2
  · rename_i hb1
    go_ret
    refine ⟨?_, rfl⟩
    have e : ((b : Int) % 4503599627370496 * 4096 != 0) = decide (isN b) := by
      rw [Bool.eq_iff_iff, bne_iff_ne, decide_eq_true_eq]
      unfold isN
      omega
    rw [← e]
    rfl
  · rename_i hb1
    go_ret
    refine ⟨?_, rfl⟩
    have e : decide (isN b) = false := by
      rw [decide_eq_false_iff_not]
      unfold isN
      omega
    rw [e]
    rfl
end Go.Proofs.YtomklacjaadcaaaDoor
