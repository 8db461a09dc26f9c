/- Contract of the program's conversion of a real number, by its word, into a whole one. -/
import Derived.Test.YtgpkigofbncamabFltF
namespace Go.Proofs.Ytgpkigofbncamab
open Go.RowKit Go.Sort

set_option maxHeartbeats 400000 in
theorem isnan_yes (b : Nat) (w : World) (h : isN b) :
    Calls Try.prog 21 #[.float .f64 b] w fun e w' => e = .returned (.bool true) ∧ w' = w := by
  have o : FloatKind.f64.format.order b b = none := order_nan h
  clear h
  go_enter Try.func21, Try.ntmps21
  go_wp2
  go_ret
  exact ⟨rfl, rfl⟩
theorem order_inf_self : Ieee.double.order 9218868437227405312 9218868437227405312 = some .eq ∧ Ieee.double.order 18442240474082181120 18442240474082181120 = some .eq := by decide
theorem order_same {b : Nat} (hb : b < 18446744073709551616) (h : ¬ isN b) : Ieee.double.order b b = some .eq := by
  unfold isN at h
  by_cases c : b % 9223372036854775808 < 9218868437227405312
  · exact order_self ⟨hb, c⟩
  · have : b = 9218868437227405312 ∨ b = 18442240474082181120 := by omega
    rcases this with rfl | rfl
    · exact order_inf_self.1
    · exact order_inf_self.2
set_option maxHeartbeats 400000 in
theorem isnan_no (b : Nat) (w : World) (hb : b < 18446744073709551616) (h : ¬ isN b) :
    Calls Try.prog 21 #[.float .f64 b] w fun e w' => e = .returned (.bool false) ∧ w' = w := by
  have o : FloatKind.f64.format.order b b = some .eq := order_same hb h
  clear h
  go_enter Try.func21, Try.ntmps21
  go_wp2
  go_ret
  exact ⟨rfl, rfl⟩

set_option maxHeartbeats 400000 in
theorem wfrom_nan (b : Nat) (w : World) (h : isN b) :
    Calls Try.prog 11 #[.float .f64 b] w fun e w' => e = .returned (.tuple #[.agg #[.int .i64 0, .int .u64 0], .int .i64 2]) ∧ Gr w w' := by
  go_enter Try.func11, Try.ntmps11
  go_wp2_with (go_at_call 21; refine (isnan_yes b _ h).mono ?_; rintro e w' ⟨rfl, rfl⟩)
  refine bodyPost_ret (v := .tuple #[.agg #[.int .i64 0, .int .u64 0], .int .i64 2]) (by simp [results, Try.results11, go_sem]) rfl ⟨rfl, ?_⟩
  exact (Gr.refl _).alloc _

set_option maxHeartbeats 1000000 in
theorem wfrom_wide (b : Nat) (w : World) (hb : b < 18446744073709551616) (h : ¬ isN b) (hw : wideB b) :
    Calls Try.prog 11 #[.float .f64 b] w fun e w' => e = .returned (.tuple #[.agg #[.int .i64 0, .int .u64 0], .int .i64 12]) ∧ Gr w w' := by
  have hN : Hid (∀ w, Calls Try.prog 21 #[.float .f64 b] w fun e w' => e = .returned (.bool false) ∧ w' = w) := fun w => isnan_no b w hb h
  unfold isN at h
  rcases hw with ⟨c1, c2⟩ | c1
  · have o : (FloatKind.f64.format.order b 5179139571476070400 == some .gt || FloatKind.f64.format.order b 5179139571476070400 == some .eq) = true := ge127_yes c1 (by omega)
    clear h c1 c2 hb
    go_enter Try.func11, Try.ntmps11
    go_wp2_with (go_at_call 21; refine (hN.out _).mono ?_; rintro e w' ⟨rfl, rfl⟩)
    refine bodyPost_ret (v := .tuple #[.agg #[.int .i64 0, .int .u64 0], .int .i64 12]) (by simp [results, Try.results11, go_sem]) rfl ⟨rfl, ?_⟩
    exact (Gr.refl _).alloc _
  · have o : FloatKind.f64.format.order b 5179139571476070400 = some .lt := ge127_neg (by omega) (by omega)
    have o2 : FloatKind.f64.format.order b 14402511608330846208 = some .lt := lt127_yes c1 (by omega)
    clear h c1 hb
    go_enter Try.func11, Try.ntmps11
    go_wp2_with (go_at_call 21; refine (hN.out _).mono ?_; rintro e w' ⟨rfl, rfl⟩)
    refine bodyPost_ret (v := .tuple #[.agg #[.int .i64 0, .int .u64 0], .int .i64 12]) (by simp [results, Try.results11, go_sem]) rfl ⟨rfl, ?_⟩
    exact (Gr.refl _).alloc _

theorem tests127 {b : Nat} (hb : b < 18446744073709551616) (h : ¬ isN b) (hw : ¬ wideB b) :
    (Ieee.double.order b 5179139571476070400 = some .lt) ∧ (Ieee.double.order b 14402511608330846208 == some .lt) = false ∧ fin b ∧ b % 9223372036854775808 ≤ 5179139571476070400 := by
  unfold isN at h
  unfold wideB at hw
  by_cases c : b < 9223372036854775808
  · exact ⟨ge127_no (by omega), by rw [lt127_pos (by omega)]; rfl, ⟨hb, by omega⟩, by omega⟩
  · exact ⟨ge127_neg (by omega) (by omega), lt127_no (by omega) (by omega), ⟨hb, by omega⟩, by omega⟩

set_option maxHeartbeats 1000000 in
theorem wfrom_any (b : Nat) (w : World) (hb : b < 18446744073709551616) (h : ¬ isN b) (hw : ¬ wideB b) :
    Calls Try.prog 11 #[.float .f64 b] w fun e w' => e = .returned (.tuple #[.agg #[.int .i64 (hiI (trI b)), .int .u64 (loI (trI b))], .int .i64 0]) ∧ Gr w w' := by
  have hN : Hid (∀ w, Calls Try.prog 21 #[.float .f64 b] w fun e w' => e = .returned (.bool false) ∧ w' = w) := fun w => isnan_no b w hb h
  obtain ⟨o1, o2, hf, hr⟩ := tests127 hb h hw
  have o : FloatKind.f64.format.order b 5179139571476070400 = some .lt := o1
  have o' : (FloatKind.f64.format.order b 14402511608330846208 == some .lt) = false := o2
  have o0 : (FloatKind.f64.format.order b 0 == some .lt) = decide (9223372036854775808 < b) := below_0 hf
  have C : Hid (∀ w, Calls Try.prog 15 #[.agg #[.int .u64 (((flo (b % 9223372036854775808) : Nat) : Int) / 18446744073709551616), .int .u64 (((flo (b % 9223372036854775808) : Nat) : Int) % 18446744073709551616)], .bool (decide (9223372036854775808 < b))] w fun e w' => e = .returned (.agg #[.int .i64 (hiI (trI b)), .int .u64 (loI (trI b))]) ∧ Gr w w') := fun w => by
    have h := wsigned_any ((flo (b % 9223372036854775808) : Nat) : Int) (decide (9223372036854775808 < b)) w
    have e : (if decide (9223372036854775808 < b) = true then -((flo (b % 9223372036854775808) : Nat) : Int) else ((flo (b % 9223372036854775808) : Nat) : Int)) = trI b := by
      unfold trI
      by_cases c : 9223372036854775808 < b <;> simp [c]
    rw [e] at h
    exact h
  have HA : Hid (∀ w, Calls Try.prog 23 #[.float .f64 b] w fun e w' => e = .returned (.float .f64 (b % 9223372036854775808)) ∧ w' = w) := fun w => abs_any b w hb
  have hfin := hf.2
  clear o1 o2 hf hw h hb
  generalize decide (9223372036854775808 < b) = SG at *
  generalize b % 9223372036854775808 = r at *
  by_cases h0 : r = 0
  · subst h0
    have hz : flo 0 = scl 0 (-53) := by decide
    rw [hz] at C
    have R := to_u64_0
    clear hz
    go_enter Try.func11, Try.ntmps11
    go_wp2_with (first
      | (go_at_call 21; refine (hN.out _).mono ?_; rintro e w' ⟨rfl, rfl⟩)
      | (go_at_call 23; refine (HA.out _).mono ?_; rintro e w' ⟨rfl, rfl⟩)
      | (go_at_call 22; refine (frexp_zero _).mono ?_; rintro e w' ⟨rfl, rfl⟩)
      | (go_at_call 24; refine (ldexp_zero 53 _).mono ?_; rintro e w' ⟨rfl, rfl⟩)
      | (go_at_call 25; refine (shifted_any 0 (-53) _ (by omega) (by omega) (by omega)).mono ?_; rintro e w1 ⟨rfl, g1⟩))
    have k := Bx.new w 24 (.int .i64 0) (.int .u64 0)
    have hG := (Gr.refl w).alloc (.cells #[.int .i64 0, .int .u64 0] 24)
    replace hG := hG.trans g1
    replace k := k.gr g1
    refine (C.out _).mono ?_
    rintro e w2 ⟨rfl, g2⟩
    replace hG := hG.trans g2
    replace k := k.gr g2
    have c0 := k.c0
    have c1 := k.c1
    have c2 := k.f0
    have c3 := k.f1
    clear C HA hN R o o' o0
    go_wp2
    refine bodyPost_ret (v := .tuple #[.agg #[.int .i64 (hiI (trI b)), .int .u64 (loI (trI b))], .int .i64 0]) (by simp [results, Try.results11, go_sem, c0, c1]) rfl ⟨rfl, ?_⟩
    exact (hG.setCell (by simp) _).setCell (by simp) _
  · obtain ⟨M, p, n1, hs, p0, p1, p2, HF0⟩ := frexp_all r (by omega) hfin
    replace p1 := p1 hr
    have HF : Hid (∀ w, Calls Try.prog 22 #[.float .f64 r] w fun e w' => e = .returned (.tuple #[.float .f64 (fw false M 1021), .int .i64 (p + 53)]) ∧ w' = w) := HF0
    have HL : Hid (∀ w, Calls Try.prog 24 #[.float .f64 (fw false M 1021), .int .i64 53] w fun e w' => e = .returned (.float .f64 (fw false M 1074)) ∧ w' = w) := fun w => ldexp_any M 1021 1074 53 w n1 (by omega) (by omega)
    have hM := n1.hi
    have R := to_u64 n1
    rw [← hs] at C
    clear HF0 n1 hs
    generalize fw false M 1021 = f1 at *
    generalize fw false M 1074 = f2 at *
    go_enter Try.func11, Try.ntmps11
    go_wp2_with (first
      | (go_at_call 21; refine (hN.out _).mono ?_; rintro e w' ⟨rfl, rfl⟩)
      | (go_at_call 23; refine (HA.out _).mono ?_; rintro e w' ⟨rfl, rfl⟩)
      | (go_at_call 22; refine (HF.out _).mono ?_; rintro e w' ⟨rfl, rfl⟩)
      | (go_at_call 24; refine (HL.out _).mono ?_; rintro e w' ⟨rfl, rfl⟩)
      | (go_at_call 25; (try rw [show p + 53 - 53 = p from by omega]); refine (shifted_any M p _ hM (by omega) (by omega)).mono ?_; rintro e w1 ⟨rfl, g1⟩))
    have k := Bx.new w 24 (.int .i64 0) (.int .u64 0)
    have hG := (Gr.refl w).alloc (.cells #[.int .i64 0, .int .u64 0] 24)
    replace hG := hG.trans g1
    replace k := k.gr g1
    refine (C.out _).mono ?_
    rintro e w2 ⟨rfl, g2⟩
    replace hG := hG.trans g2
    replace k := k.gr g2
    have c0 := k.c0
    have c1 := k.c1
    have c2 := k.f0
    have c3 := k.f1
    clear C HA hN R o o' o0
    go_wp2
    refine bodyPost_ret (v := .tuple #[.agg #[.int .i64 (hiI (trI b)), .int .u64 (loI (trI b))], .int .i64 0]) (by simp [results, Try.results11, go_sem, c0, c1]) rfl ⟨rfl, ?_⟩
    exact (hG.setCell (by simp) _).setCell (by simp) _
end Go.Proofs.Ytgpkigofbncamab
