/- Contracts of both lengths and headings; of the reference's Place and way. -/
import Derived.Test.YtmjfphidcnjklaaFi
import Derived.Test.YtmjfphidcnjklaaPl1
set_option linter.unusedSimpArgs false
namespace Go.Proofs.Ytmjfphidcnjklaa
open Go.RowKit Go.Sort Ieee

theorem near_ok (m : Nat) (p : Int) : double.nearest false m p ≤ 9218868437227405312 := by
  unfold Format.nearest
  split
  · unfold Format.word; simp
  · unfold Format.word
    rw [dbl_inf]
    simp only [Bool.false_eq_true, if_false]
    exact Nat.min_le_right _ _
/-- A word that is not below 0. -/
theorem read_pos {b : Nat} (h : b ≤ 9218868437227405312) : double.read b = .infinity false ∨ ∃ m k, double.read b = .number false m k := by
  rcases Nat.lt_or_eq_of_le h with h | h
  · have hf : fin b := ⟨by omega, by omega⟩
    obtain ⟨m, k, e, _⟩ := read_fin hf
    rw [decide_eq_false (by omega)] at e
    exact .inr ⟨m, _, e⟩
  · subst h; exact .inl (read_inf false)
theorem sq_ok {b : Nat} (h : fin b) : ∃ r, floatBits .mul .f64 b b = some r ∧ r ≤ 9218868437227405312 := by
  obtain ⟨m, k, e, _⟩ := read_fin h
  refine ⟨double.nearest false (m * m) (((k : Int) - 1074) + ((k : Int) - 1074)), ?_, near_ok _ _⟩
  show Format.mul double b b = _
  unfold Format.mul
  rw [e]
  show some (double.nearest _ (m * m) _) = _
  rw [show (decide (9223372036854775808 ≤ b) ^^ decide (9223372036854775808 ≤ b)) = false from by cases decide (9223372036854775808 ≤ b) <;> rfl]
theorem add_ok {a b : Nat} (ha : a ≤ 9218868437227405312) (hb : b ≤ 9218868437227405312) : ∃ r, floatBits .add .f64 a b = some r ∧ r ≤ 9218868437227405312 := by
  have hw : double.word false double.infRung ≤ 9218868437227405312 := by rw [dbl_inf]; decide
  show ∃ r, Format.add double a b = some r ∧ _
  unfold Format.add
  rcases read_pos ha with e | ⟨m, i, e⟩ <;> rcases read_pos hb with e' | ⟨n, j, e'⟩ <;> rw [e, e']
  · exact ⟨_, rfl, hw⟩
  · exact ⟨_, rfl, hw⟩
  · exact ⟨_, rfl, hw⟩
  · simp only [Datum.sum, Option.map_some, Format.write]
    refine ⟨_, rfl, ?_⟩
    have ht : ∀ T : Int, 0 ≤ T → (if T = 0 then (false && false) else decide (T < 0)) = false := fun T h => by
      split
      · rfl
      · simp; omega
    have hs : ∀ m u, 0 ≤ signed false m u := fun m u => by unfold signed; rw [if_neg (by decide)]; exact Int.natCast_nonneg _
    rw [ht _ (Int.add_nonneg (hs _ _) (hs _ _))]
    exact near_ok _ _
theorem root_ok {a : Nat} (ha : a ≤ 9218868437227405312) : ∃ r, FloatKind.f64.format.sqrt a = some r ∧ r ≤ 9218868437227405312 := by
  have hw : double.word false double.infRung ≤ 9218868437227405312 := by rw [dbl_inf]; decide
  show ∃ r, Format.sqrt double a = some r ∧ _
  unfold Format.sqrt
  rcases read_pos ha with e | ⟨m, i, e⟩ <;> rw [e]
  · exact ⟨_, rfl, hw⟩
  · simp only [Datum.root]
    split
    · exact ⟨_, rfl, near_ok _ _⟩
    · rw [if_neg (by decide)]
      exact ⟨_, rfl, near_ok _ _⟩
theorem int_fin {n : Int} (h : -9223372036854775808 ≤ n ∧ n ≤ 9223372036854775807) : fin (floatOfInt .f64 n) := by
  have hlt := (foi_V n).1
  refine ⟨hlt, ?_⟩
  show double.nearest (decide (n < 0)) n.natAbs 0 % 9223372036854775808 < 9218868437227405312
  by_cases h0 : n.natAbs = 0
  · rw [h0, nearest_zero]; unfold Format.word; rw [dbl_sw]; split <;> decide
  · have hl1 : 2 ^ n.natAbs.log2 ≤ n.natAbs := Nat.log2_self_le h0
    have hl2 : n.natAbs < 2 ^ (n.natAbs.log2 + 1) := Nat.lt_log2_self
    have hL : n.natAbs.log2 ≤ 63 := by
      apply Classical.byContradiction
      intro hc
      have : 2 ^ 64 ≤ 2 ^ n.natAbs.log2 := Nat.pow_le_pow_right (by omega) (by omega)
      omega
    generalize n.natAbs = A at *
    generalize A.log2 = L at *
    by_cases c : L ≤ 52
    · rw [(nearest_small _ A L (L + 1022) 0 hl1 hl2 c (by omega) (by omega)).1]
      have hN := (nearest_small (decide (n < 0)) A L (L + 1022) 0 hl1 hl2 c (by omega) (by omega)).2
      have h1 := hN.lo
      have h2 := hN.hi
      generalize A * 2 ^ (52 - L) = M at *
      clear hl1 hl2
      unfold fw
      split <;> omega
    · obtain ⟨K, rfl⟩ : ∃ K, L = 52 + K := ⟨L - 52, by omega⟩
      rw [nearest_at _ A K 0 hl1 (by rw [show 53 + K = 52 + K + 1 from by omega]; exact hl2) (by omega)]
      have hr : rne A K ≤ 9007199254740992 := by
        unfold rne
        have hd : A / 2 ^ K < 9007199254740992 := by
          rw [Nat.div_lt_iff_lt_mul (Nat.two_pow_pos K)]
          have e : (2 : Nat) ^ (52 + K + 1) = 9007199254740992 * 2 ^ K := by rw [show 52 + K + 1 = 53 + K from by omega, Nat.pow_add]
          rw [← e]; exact hl2
        split <;> omega
      generalize rne A K = R at *
      clear hl1 hl2
      rw [show (0 + (K : Int) + 1074).toNat = K + 1074 from by omega, Nat.min_eq_left (by omega)]
      unfold Format.word
      rw [dbl_sw]
      split <;> omega
theorem run75 {x r : Nat} (h : FloatKind.f64.format.sqrt x = some r) (w : World) : (callFunc 75 #[.float .f64 x]).run Try.prog w = .ok (.value (.float .f64 r)) w := by
  rw [run_callFunc_extern Try.func75 (by kernel_rfl) (by kernel_rfl) (by kernel_rfl) (e := Extern.MathSqrt.sqrt) (by kernel_rfl)]
  have e : Extern.MathSqrt.sqrt #[.float .f64 x] = pure (.float .f64 r) := by
    show (match FloatKind.f64.format.sqrt x with
      | some r => pure (.float .f64 r)
      | none => do pure (.float .f64 (← choose (.nanBits .f64 x x))) : Sem Value) = _
    rw [h]
  rw [e]
  rfl
set_option maxHeartbeats 400000 in
theorem sqrt_any {x r : Nat} (h : FloatKind.f64.format.sqrt x = some r) (w : World) : Calls Try.prog 66 #[.float .f64 x] w fun e w' => e = .returned (.float .f64 r) ∧ w' = w := by
  have H := run75 h
  go_enter Try.func66, Try.ntmps66
  go_wp2_with (simp only [H])
  go_ret
  exact ⟨rfl, rfl⟩
set_option maxRecDepth 20000 in
set_option maxHeartbeats 800000 in
theorem lengths (m n : Int) (hm : -9223372036854775808 ≤ m ∧ m ≤ 9223372036854775807) (hn : -9223372036854775808 ≤ n ∧ n ≤ 9223372036854775807) :
    ∃ r, r ≤ 9218868437227405312 ∧ (∀ w, Calls Try.prog 64 #[.int .i64 m, .int .i64 n] w fun e w' => e = .returned (.float .f64 r) ∧ w' = w) ∧ ∀ w, Calls Try.prog 65 #[.int .i64 m, .int .i64 n] w fun e w' => e = .returned (.float .f64 r) ∧ w' = w := by
  obtain ⟨x, hx, lx⟩ := sq_ok (int_fin hm)
  obtain ⟨y, hy, ly⟩ := sq_ok (int_fin hn)
  obtain ⟨s, hs, ls⟩ := add_ok lx ly
  obtain ⟨r, hr, lr⟩ := root_ok ls
  refine ⟨r, lr, fun w => ?_, fun w => ?_⟩
  · have e1 : ∀ w, (binOp .mul 31 (.float .f64 (floatOfInt .f64 m)) (.float .f64 (floatOfInt .f64 m))).run Try.prog w = .ok (.float .f64 x) w := fun w => run_float_arith w .mul 31 .f64 _ _ _ hx
    have e2 : ∀ w, (binOp .mul 31 (.float .f64 (floatOfInt .f64 n)) (.float .f64 (floatOfInt .f64 n))).run Try.prog w = .ok (.float .f64 y) w := fun w => run_float_arith w .mul 31 .f64 _ _ _ hy
    have e3 : ∀ w, (binOp .add 31 (.float .f64 x) (.float .f64 y)).run Try.prog w = .ok (.float .f64 s) w := fun w => run_float_arith w .add 31 .f64 _ _ _ hs
    have H := hid' (fun w => sqrt_any hr w)
    clear hx hy hs hr hm hn
    go_enter Try.func64, Try.ntmps64
    go_wp2_with (go_at_call 66; refine (H.out _).mono ?_; rintro e w' ⟨rfl, rfl⟩)
    go_ret
    exact ⟨rfl, rfl⟩
  · have e1 : ∀ w, (binOp .mul 31 (.float .f64 (floatOfInt .f64 m)) (.float .f64 (floatOfInt .f64 m))).run Try.prog w = .ok (.float .f64 x) w := fun w => run_float_arith w .mul 31 .f64 _ _ _ hx
    have e2 : ∀ w, (binOp .mul 31 (.float .f64 (floatOfInt .f64 n)) (.float .f64 (floatOfInt .f64 n))).run Try.prog w = .ok (.float .f64 y) w := fun w => run_float_arith w .mul 31 .f64 _ _ _ hy
    have e3 : ∀ w, (binOp .add 31 (.float .f64 x) (.float .f64 y)).run Try.prog w = .ok (.float .f64 s) w := fun w => run_float_arith w .add 31 .f64 _ _ _ hs
    have H := hid' (fun w => sqrt_any hr w)
    clear hx hy hs hr hm hn
    go_enter Try.func65, Try.ntmps65
    go_wp2_with (go_at_call 66; refine (H.out _).mono ?_; rintro e w' ⟨rfl, rfl⟩)
    go_ret
    exact ⟨rfl, rfl⟩

set_option maxRecDepth 20000 in
set_option maxHeartbeats 1600000 in
theorem heading_no {px py : Int} (w : World) : Calls Try.prog 31 #[ptV px py, ptV px py] w fun e w' => e = .returned (.complex .f64 0 0) ∧ Gr w w' := by
  go_enter Try.func31, Try.ntmps31
  go_wp2
  go_ret
  exact ⟨rfl, ((Gr.refl _).alloc _).alloc _⟩
set_option maxRecDepth 20000 in
set_option maxHeartbeats 1600000 in
theorem rheading_no {px py : Int} (w : World) : Calls Try.prog 32 #[ptV px py, ptV px py] w fun e w' => e = .returned (numV 0 0) ∧ Gr w w' := by
  have sf := run_store_f
  go_enter Try.func32, Try.ntmps32
  go_wp2
  refine bodyPost_ret (v := numV 0 0) (by simp [results, Try.results32, go_sem]) rfl ⟨rfl, ?_⟩
  repeat (first | exact Gr.refl _ | refine Gr.setCell ?_ (by simp only []; omega) _ | refine Gr.drewN ?_ _ | refine Gr.alloc ?_ _)
theorem bd64 {a b : Int} (h : in32 a) (k : in32 b) : -9223372036854775808 ≤ a - b ∧ a - b ≤ 9223372036854775807 := by unfold in32 at *; omega
set_option maxRecDepth 20000 in
set_option maxHeartbeats 3200000 in
theorem headings {px py qx qy : Int} (h1 : in32 px) (h2 : in32 py) (h3 : in32 qx) (h4 : in32 qy) (hne : ((px == qx) = true ∧ (py == qy) = false) ∨ (px == qx) = false) :
    ∃ L, V L L ∧ (∀ w, Calls Try.prog 31 #[ptV px py, ptV qx qy] w fun e w' => ∃ r s, e = .returned (.complex .f64 r s) ∧ V r (fo .quo (fi (qx - px)) L) ∧ V s (fo .quo (fi (qy - py)) L) ∧ Gr w w') ∧
      ∀ w, Calls Try.prog 32 #[ptV px py, ptV qx qy] w fun e w' => ∃ r s, e = .returned (numV r s) ∧ V r (fo .quo (fi (qx - px)) L) ∧ V s (fo .quo (fi (qy - py)) L) ∧ Gr w w' := by
  obtain ⟨L, lL, L1, L2⟩ := lengths (qx - px) (qy - py) (bd64 h3 h1) (bd64 h4 h2)
  have VL : V L L := V.refl (by omega)
  refine ⟨L, VL, fun w => ?_, fun w => ?_⟩
  · have LL := fun w => hid' (L1 w)
    have WY := fun w => hid' (way_any h1 h2 h3 h4 w)
    have DV := fun w => hid' (divided_any (foi_V (qx - px)) (foi_V (qy - py)) VL w)
    clear h1 h2 h3 h4 L1 L2 lL
    rcases hne with ⟨b1, b2⟩ | b1
    all_goals
      go_enter Try.func31, Try.ntmps31
      go_wp2_with (first
        | (go_at_call 58; refine (WY _).out.mono ?_; rintro e w1 ⟨rfl, g1⟩)
        | (go_at_call 57; refine (number_any _ _ _).mono ?_; rintro e w2 ⟨rfl, rfl⟩)
        | (go_at_call 64; refine (LL _).out.mono ?_; rintro e w3 ⟨rfl, rfl⟩)
        | (go_at_call 63; refine (DV _).out.mono ?_; rintro e w4 ⟨r, s, rfl, k1, k2, g4⟩))
      go_ret
      exact ⟨_, _, rfl, k1, k2, ((((Gr.refl _).alloc _).alloc _).trans g1).trans g4⟩
  · have LL := fun w => hid' (L2 w)
    have e1 := wrap64_in h1
    have e2 := wrap64_in h2
    have e3 := wrap64_in h3
    have e4 := wrap64_in h4
    have e5 := wrap64_dif h3 h1
    have e6 := wrap64_dif h4 h2
    have va := foi_V (qx - px)
    have vb := foi_V (qy - py)
    have sf := run_store_f
    clear h1 h2 h3 h4 L1 L2 lL
    rcases hne with ⟨b1, b2⟩ | b1
    all_goals
      go_enter Try.func32, Try.ntmps32
      go_wp2_with (first
        | (go_at_call 65; refine (LL _).out.mono ?_; rintro e w3 ⟨rfl, rfl⟩)
        | (refine wpList_fl _ rfl .quo (.inr (.inr (.inr rfl))) _ _ rfl _ _ rfl rfl (by assumption) (by assumption) ?_; intro r n k1))
      rename_i r5 n5 h5
      refine bodyPost_ret (v := numV r5 r) (by simp [results, Try.results32, go_sem]) rfl ⟨_, _, rfl, h5, k1, ?_⟩
      repeat (first | exact Gr.refl _ | refine Gr.setCell ?_ (by simp only []; omega) _ | refine Gr.drewN ?_ _ | refine Gr.alloc ?_ _)
end Go.Proofs.Ytmjfphidcnjklaa
