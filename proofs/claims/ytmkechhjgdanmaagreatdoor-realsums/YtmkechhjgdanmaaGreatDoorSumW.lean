/- Contracts of both sums: any numbers, each step rounded by itself, none that is a number drawn. -/
import Derived.Test.YtmkechhjgdanmaaGreatDoorSumP
import Derived.Test.YtmkechhjgdanmaaGreatDoorCmp
import Derived.OwnWalk
import Derived.Lib.ItoaNum
import Derived.Laws.BitsAllLaws
namespace Go.Proofs.YtmkechhjgdanmaaGreatDoor
open Go.RowKit Go.Sort

theorem cut_nan (x y t : Nat) : isN ((Question.nanBits .f64 x y).cut t) ∧ (Question.nanBits .f64 x y).cut t < 18446744073709551616 := by
  show isN ((t % 2) * 2 ^ 63 + 0x7ff0000000000000 + 1 + (t / 2) % (2 ^ 52 - 1)) ∧ (t % 2) * 2 ^ 63 + 0x7ff0000000000000 + 1 + (t / 2) % (2 ^ 52 - 1) < 18446744073709551616
  unfold isN
  have h1 : t % 2 < 2 := Nat.mod_lt _ (by decide)
  have h2 : (t / 2) % (2 ^ 52 - 1) < 2 ^ 52 - 1 := Nat.mod_lt _ (by decide)
  generalize (t / 2) % (2 ^ 52 - 1) = u at *
  generalize t % 2 = v at *
  rcases (show v = 0 ∨ v = 1 from by omega) with rfl | rfl <;> omega
/-- An operation on two words: what it may answer; at most one draw. -/
theorem run_ar (op : BinOp) (hop : op = .add ∨ op = .sub ∨ op = .mul ∨ op = .quo) (a b : Nat) (w : World) :
    ∃ r w', (binOp op 23 (.float .f64 a) (.float .f64 b)).run Tryz.prog w = .ok (.float .f64 r) w' ∧ arR op a b r ∧ Gr w w' := by
  cases h : floatBits op .f64 a b with
  | some r => exact ⟨r, w, run_float_arith w op 23 .f64 a b r h, .inl h, Gr.refl w⟩
  | none =>
    refine ⟨(Question.nanBits .f64 a b).cut (w.tape w.drawn (.nanBits .f64 a b)), w.drew, ?_, .inr ⟨h, (cut_nan _ _ _).1, (cut_nan _ _ _).2⟩, (Gr.refl w).drew⟩
    unfold floatBits at h
    rcases hop with rfl | rfl | rfl | rfl <;> simp only at h <;> simp [binOp, Op.floatArith, h] <;> intro hf <;> cases hf
/-- The walk's law of it. -/
theorem wpList_float (w : World) {ops : Array Oper} {rest : List Oper} {o : Oper} {a : Act} {Q : Exit → Act → World → Prop}
    (hg : o.guard = none) (op : BinOp) (hop4 : op = .add ∨ op = .sub ∨ op = .mul ∨ op = .quo) (x y : Operand) (hop : o.op = Op.binOp op 23 x y 23) (p q : Nat) (hx : a.eval x = .float .f64 p) (hy : a.eval y = .float .f64 q)
    (hK : ∀ r w', arR op p q r → Gr w w' → wpList Tryz.prog ops Q rest (a.put o.dst (.float .f64 r)) w') : wpList Tryz.prog ops Q (o :: rest) a w := by
  refine wpList_plain hg fun K hK' => ?_
  obtain ⟨r, w', hrun, h1, h2⟩ := run_ar op hop4 p q w
  unfold Oper.wp
  rcases hop4 with rfl | rfl | rfl | rfl <;> simp [execOp, hop, hx, hy, eqGuard, hrun, Result.andThen] <;> exact hK' _ _ (hK r w' h1 h2)
theorem andnot_sign {b : Nat} (h : b < 18446744073709551616) : bits .andNot .u64 (b : Int) 9223372036854775808 = ((b % 9223372036854775808 : Nat) : Int) := by
  have := u64_andNot_nat b 9223372036854775808 h (by decide)
  rw [show (((9223372036854775808 : Nat)) : Int) = 9223372036854775808 from rfl] at this
  rw [this, show 18446744073709551615 - 9223372036854775808 = 2 ^ 63 - 1 from rfl, Nat.and_two_pow_sub_one_eq_mod]
set_option maxHeartbeats 400000 in
theorem abs_any (b : Nat) (w : World) (h : b < 18446744073709551616) :
    Calls Tryz.prog 21 #[.float .f64 b] w fun e w' => e = .returned (.float .f64 (b % 9223372036854775808)) ∧ w' = w := by
  have E : Hid (bits .andNot .u64 (b : Int) 9223372036854775808 = ((b % 9223372036854775808 : Nat) : Int)) := andnot_sign h
  clear h
  go_enter Tryz.func21, Tryz.ntmps21
  go_wp2_with (first | simp only [run30] | simp only [run42])
  go_ret
  exact ⟨by rw [E.out]; rfl, rfl⟩
set_option maxRecDepth 20000 in
set_option maxHeartbeats 400000 in
theorem size_any (b : Nat) (w : World) (_h : b < 18446744073709551616) :
    Calls Tryz.prog 49 #[.float .f64 b] w fun e w' => ∃ r, e = .returned (.float .f64 r) ∧ szR b r ∧ Gr w w' := by
  by_cases c : (FloatKind.f64.format.order b 0 == some .lt) = true
  · have HS : Hid (∀ r, arR .sub 0 b r → szR b r) := fun r hr => by
      have c2 : (Ieee.double.order b 0 == some .lt) = true := c
      unfold szR; rw [if_pos c2]; exact hr
    have c' : FloatKind.f64.format.order b 0 = some .lt := by simpa using c
    clear c
    go_enter Tryz.func49, Tryz.ntmps49
    go_wp2_with (refine wpList_float _ rfl .sub (.inr (.inl rfl)) _ _ rfl _ _ rfl rfl ?_; intro r w1 h1 g1)
    go_ret
    exact ⟨r, rfl, HS.out r h1, g1⟩
  · have HS : Hid (szR b b) := by
      show szR b b
      have c2 : ¬ (Ieee.double.order b 0 == some .lt) = true := c
      unfold szR; rw [if_neg c2]
    have c' : (FloatKind.f64.format.order b 0 == some .lt) = false := by simpa using c
    clear c
    go_enter Tryz.func49, Tryz.ntmps49
    go_wp2
    go_ret
    exact ⟨b, rfl, HS.out, Gr.refl _⟩
/-- A slice of words, from its block's first cell on. -/
def Fs (w : World) (v : Value) (l : List Nat) : Prop := (v = .slice none 0 0 ∧ l = []) ∨ ∃ g cap, v = .slice (some ⟨g, 0, none⟩) l.length cap ∧ ∀ i, i < l.length → w.cell? ⟨g, i, none⟩ = some (.float .f64 (l.getD i 0))
theorem stR_zero (l : List Nat) : stR l 0 0 0 := ⟨rfl, rfl⟩
set_option maxRecDepth 20000 in
set_option maxHeartbeats 3200000 in
theorem sum_some (g cap : Nat) (l : List Nat) (w : World) (hc : ∀ i, i < l.length → w.cell? ⟨g, i, none⟩ = some (.float .f64 (l.getD i 0))) (hl : ∀ i, l.getD i 0 < 18446744073709551616) (hn : l.length ≤ 281474976710656) :
    Calls Tryz.prog 26 #[.slice (some ⟨g, 0, none⟩) l.length cap] w fun e w' => ∃ r, e = .returned (.float .f64 r) ∧ sumR l r ∧ Gr w w' := by
  have HC := hid' hc
  have HL := hid' hl
  clear hc hl
  go_enter Tryz.func26, Tryz.ntmps26
  go_wp2
  go_loopw [3, 4, 10] (fun vs vc vi wr => ∃ i s c : Nat, i ≤ l.length ∧ vs = .float .f64 s ∧ vc = .float .f64 c ∧ vi = .int .i64 i ∧ Hid (stR l i s c) ∧ Hid (Gr w wr)) (fun _ _ vi _ => l.length - (intOf vi).toNat)
  case atStart => exact ⟨0, 0, 0, by omega, rfl, rfl, rfl, stR_zero l, Gr.refl w⟩
  case round =>
    obtain ⟨i, s, c, hi, rfl, rfl, rfl, hS, hG⟩ := hrel
    by_cases hlt : i < l.length
    · have r1 := below_cell (HC.out i hlt) hG.out.below
      have hs := (stR_lt hS.out).1
      have hx := HL.out i
      have HS : Hid (∀ s' c', stepR s c (l.getD i 0) s' c' → stR l (i + 1) s' c') := fun s' c' h => ⟨s, c, hS.out, h⟩
      generalize l.getD i 0 = x at *
      clear hS
      go_upto_region 6 with (refine wpList_float _ rfl .add (.inl rfl) _ _ rfl _ _ rfl rfl ?_; intro t w1 h1 g1)
      have HA := hid' h1
      replace hG := hid' (hG.out.trans g1)
      clear h1 g1 r1
      cases hb : big s x with
      | true =>
        have o : (FloatKind.f64.format.order (s % 9223372036854775808) (x % 9223372036854775808) == some .gt || FloatKind.f64.format.order (s % 9223372036854775808) (x % 9223372036854775808) == some .eq) = true := hb
        go_upto_region 10 with (first
          | (go_at_call 21; refine (abs_any _ _ (by assumption)).mono ?_; rintro e w' ⟨rfl, rfl⟩)
          | (refine wpList_float _ rfl .sub (.inr (.inl rfl)) _ _ rfl _ _ rfl rfl ?_; intro d w2 h2 g2)
          | (refine wpList_float _ rfl .add (.inl rfl) _ _ rfl c _ rfl rfl ?_; intro c' w4 h4 g4)
          | (refine wpList_float _ rfl .add (.inl rfl) _ _ rfl _ _ rfl rfl ?_; intro e w3 h3 g3))
        have HN := hid' (HS.out _ c' ⟨HA.out, d, e, by rw [hb]; exact ⟨h2, h3⟩, h4⟩)
        replace hG := hid' (((hG.out.trans g2).trans g3).trans g4)
        clear h2 h3 h4 g2 g3 g4 HA HS
        go_wp2
        go_roundw
        case rel => exact ⟨i + 1, _, c', by omega, rfl, rfl, by go_num, HN, hG⟩
        case measure => simp [intOf]; omega
      | false =>
        have o : (FloatKind.f64.format.order (s % 9223372036854775808) (x % 9223372036854775808) == some .gt || FloatKind.f64.format.order (s % 9223372036854775808) (x % 9223372036854775808) == some .eq) = false := hb
        go_upto_region 10 with (first
          | (go_at_call 21; refine (abs_any _ _ (by assumption)).mono ?_; rintro e w' ⟨rfl, rfl⟩)
          | (refine wpList_float _ rfl .sub (.inr (.inl rfl)) _ _ rfl _ _ rfl rfl ?_; intro d w2 h2 g2)
          | (refine wpList_float _ rfl .add (.inl rfl) _ _ rfl c _ rfl rfl ?_; intro c' w4 h4 g4)
          | (refine wpList_float _ rfl .add (.inl rfl) _ _ rfl _ _ rfl rfl ?_; intro e w3 h3 g3))
        have HN := hid' (HS.out _ c' ⟨HA.out, d, e, by rw [hb]; exact ⟨h2, h3⟩, h4⟩)
        replace hG := hid' (((hG.out.trans g2).trans g3).trans g4)
        clear h2 h3 h4 g2 g3 g4 HA HS
        go_wp2
        go_roundw
        case rel => exact ⟨i + 1, _, c', by omega, rfl, rfl, by go_num, HN, hG⟩
        case measure => simp [intOf]; omega
    · have HE : Hid (∀ r, arR .add s c r → sumR l r) := fun r hr => ⟨s, c, by rw [show l.length = i from by omega]; exact hS.out, hr⟩
      go_wp2_with (refine wpList_float _ rfl .add (.inl rfl) _ _ rfl _ _ rfl rfl ?_; intro r w5 h5 g5)
      go_ret
      exact ⟨r, rfl, HE.out r h5, hG.out.trans g5⟩
set_option maxRecDepth 20000 in
set_option maxHeartbeats 3200000 in
theorem rsum_some (g cap : Nat) (l : List Nat) (w : World) (hc : ∀ i, i < l.length → w.cell? ⟨g, i, none⟩ = some (.float .f64 (l.getD i 0))) (hl : ∀ i, l.getD i 0 < 18446744073709551616) (hn : l.length ≤ 281474976710656) :
    Calls Tryz.prog 28 #[.slice (some ⟨g, 0, none⟩) l.length cap] w fun e w' => ∃ r, e = .returned (.float .f64 r) ∧ sumR l r ∧ Gr w w' := by
  have HC := hid' hc
  have HL := hid' hl
  clear hc hl
  go_enter Tryz.func28, Tryz.ntmps28
  go_wp2
  go_loopw [3, 4, 5] (fun vs vc vi wr => ∃ i s c : Nat, i ≤ l.length ∧ vs = .float .f64 s ∧ vc = .float .f64 c ∧ vi = .int .i64 i ∧ Hid (stR l i s c) ∧ Hid (Gr w wr)) (fun _ _ vi _ => l.length - (intOf vi).toNat)
  case atStart => exact ⟨0, 0, 0, by omega, rfl, rfl, rfl, stR_zero l, Gr.refl w⟩
  case round =>
    obtain ⟨i, s, c, hi, rfl, rfl, rfl, hS, hG⟩ := hrel
    by_cases hlt : i < l.length
    · have r1 := below_cell (HC.out i hlt) hG.out.below
      have hs := (stR_lt hS.out).1
      have hx := HL.out i
      have HS : Hid (∀ s' c', stepR s c (l.getD i 0) s' c' → stR l (i + 1) s' c') := fun s' c' h => ⟨s, c, hS.out, h⟩
      generalize l.getD i 0 = x at *
      clear hS
      go_upto_region 9 with (refine wpList_float _ rfl .add (.inl rfl) _ _ rfl _ _ rfl rfl ?_; intro t w1 h1 g1)
      have HA := hid' h1
      replace hG := hid' (hG.out.trans g1)
      clear h1 g1 r1
      have HZ : Hid (∀ y z, szR s y → szR x z → (FloatKind.f64.format.order y z == some .gt || FloatKind.f64.format.order y z == some .eq) = big s x) := fun y z h1 h2 => szR_big hs hx h1 h2
      have Z1 := hid' (fun w => size_any s w hs)
      have Z2 := hid' (fun w => size_any x w hx)
      cases hb : big s x with
      | true =>
        rw [hb] at HZ
        go_upto_region 15 with (first
          | (go_at_call_of 49 (Value.float FloatKind.f64 s); refine (Z1.out _).mono ?_; rintro e w5 ⟨y, rfl, hy, gy⟩)
          | (go_at_call_of 49 (Value.float FloatKind.f64 x); refine (Z2.out _).mono ?_; rintro e w6 ⟨z, rfl, hz, gz⟩; have o := HZ.out y z hy hz)
          | (refine wpList_float _ rfl .sub (.inr (.inl rfl)) _ _ rfl _ _ rfl rfl ?_; intro d w2 h2 g2)
          | (refine wpList_float _ rfl .add (.inl rfl) _ _ rfl c _ rfl rfl ?_; intro c' w4 h4 g4)
          | (refine wpList_float _ rfl .add (.inl rfl) _ _ rfl _ _ rfl rfl ?_; intro e w3 h3 g3))
        have HN := hid' (HS.out _ c' ⟨HA.out, d, e, by rw [hb]; exact ⟨h2, h3⟩, h4⟩)
        replace hG := hid' (((((hG.out.trans gy).trans gz).trans g2).trans g3).trans g4)
        clear h2 h3 h4 g2 g3 g4 HA HS gy gz hy hz o
        go_wp2
        go_roundw
        case rel => exact ⟨i + 1, _, c', by omega, rfl, rfl, by go_num, HN, hG⟩
        case measure => simp [intOf]; omega
      | false =>
        rw [hb] at HZ
        go_upto_region 15 with (first
          | (go_at_call_of 49 (Value.float FloatKind.f64 s); refine (Z1.out _).mono ?_; rintro e w5 ⟨y, rfl, hy, gy⟩)
          | (go_at_call_of 49 (Value.float FloatKind.f64 x); refine (Z2.out _).mono ?_; rintro e w6 ⟨z, rfl, hz, gz⟩; have o := HZ.out y z hy hz)
          | (refine wpList_float _ rfl .sub (.inr (.inl rfl)) _ _ rfl _ _ rfl rfl ?_; intro d w2 h2 g2)
          | (refine wpList_float _ rfl .add (.inl rfl) _ _ rfl c _ rfl rfl ?_; intro c' w4 h4 g4)
          | (refine wpList_float _ rfl .add (.inl rfl) _ _ rfl _ _ rfl rfl ?_; intro e w3 h3 g3))
        have HN := hid' (HS.out _ c' ⟨HA.out, d, e, by rw [hb]; exact ⟨h2, h3⟩, h4⟩)
        replace hG := hid' (((((hG.out.trans gy).trans gz).trans g2).trans g3).trans g4)
        clear h2 h3 h4 g2 g3 g4 HA HS gy gz hy hz o
        go_wp2
        go_roundw
        case rel => exact ⟨i + 1, _, c', by omega, rfl, rfl, by go_num, HN, hG⟩
        case measure => simp [intOf]; omega
    · have HE : Hid (∀ r, arR .add s c r → sumR l r) := fun r hr => ⟨s, c, by rw [show l.length = i from by omega]; exact hS.out, hr⟩
      go_wp2_with (refine wpList_float _ rfl .add (.inl rfl) _ _ rfl _ _ rfl rfl ?_; intro r w5 h5 g5)
      go_ret
      exact ⟨r, rfl, HE.out r h5, hG.out.trans g5⟩
theorem ar_zero {r : Nat} (h : arR .add 0 0 r) : sumR [] r := ⟨0, 0, ⟨rfl, rfl⟩, h⟩
set_option maxRecDepth 20000 in
set_option maxHeartbeats 800000 in
theorem sum_none (w : World) : Calls Tryz.prog 26 #[.slice none 0 0] w fun e w' => ∃ r, e = .returned (.float .f64 r) ∧ sumR [] r ∧ Gr w w' := by
  go_enter Tryz.func26, Tryz.ntmps26
  go_wp2
  refine wp_loop_rounds 1 ?_
  rw [rounds_succ]
  go_wp2_with (refine wpList_float _ rfl .add (.inl rfl) _ _ rfl _ _ rfl rfl ?_; intro r w5 h5 g5)
  go_ret
  exact ⟨r, rfl, ar_zero h5, g5⟩
set_option maxRecDepth 20000 in
set_option maxHeartbeats 800000 in
theorem rsum_none (w : World) : Calls Tryz.prog 28 #[.slice none 0 0] w fun e w' => ∃ r, e = .returned (.float .f64 r) ∧ sumR [] r ∧ Gr w w' := by
  go_enter Tryz.func28, Tryz.ntmps28
  go_wp2
  refine wp_loop_rounds 1 ?_
  rw [rounds_succ]
  go_wp2_with (refine wpList_float _ rfl .add (.inl rfl) _ _ rfl _ _ rfl rfl ?_; intro r w5 h5 g5)
  go_ret
  exact ⟨r, rfl, ar_zero h5, g5⟩
theorem sum_any (v : Value) (l : List Nat) (w : World) (h : Fs w v l) (hl : ∀ i, l.getD i 0 < 18446744073709551616) (hn : l.length ≤ 281474976710656) :
    Calls Tryz.prog 26 #[v] w fun e w' => ∃ r, e = .returned (.float .f64 r) ∧ sumR l r ∧ Gr w w' := by
  rcases h with ⟨rfl, rfl⟩ | ⟨g, cap, rfl, hc⟩
  · exact sum_none w
  · exact sum_some g cap l w hc hl hn
theorem rsum_any (v : Value) (l : List Nat) (w : World) (h : Fs w v l) (hl : ∀ i, l.getD i 0 < 18446744073709551616) (hn : l.length ≤ 281474976710656) :
    Calls Tryz.prog 28 #[v] w fun e w' => ∃ r, e = .returned (.float .f64 r) ∧ sumR l r ∧ Gr w w' := by
  rcases h with ⟨rfl, rfl⟩ | ⟨g, cap, rfl, hc⟩
  · exact rsum_none w
  · exact rsum_some g cap l w hc hl hn
theorem Fs.mono {w w' : World} {v : Value} {l : List Nat} (h : Fs w v l) (g : Below w.heap.size w w') : Fs w' v l := by
  rcases h with h | ⟨b, cap, rfl, hc⟩
  · exact .inl h
  · exact .inr ⟨b, cap, rfl, fun i hi => below_cell (hc i hi) g⟩
end Go.Proofs.YtmkechhjgdanmaaGreatDoor
