/- Contract of the reference's conversion of a real number, by its word, into a whole one. -/
import Derived.Test.YtgpkigofbncamaaFromP
import Derived.Test.YtgpkigofbncamaaFits
import Derived.Test.YtgpkigofbncamaaRQuo
import Derived.Test.YtgpkigofbncamaaSqrt
import Derived.Deep.LoopGhost
namespace Go.Proofs.Ytgpkigofbncamaa
open Go.RowKit Go.Sort

/-- What a real number is converted into, and the error. -/
def ffT (b : Nat) : Int := if 9218868437227405312 < b % 9223372036854775808 then 0 else if (5179139571476070400 ≤ b ∧ b < 9223372036854775808) ∨ 14402511608330846208 < b then 0 else trI b
def ffE (b : Nat) : Int := if 9218868437227405312 < b % 9223372036854775808 then 2 else if (5179139571476070400 ≤ b ∧ b < 9223372036854775808) ∨ 14402511608330846208 < b then 12 else 0

set_option maxHeartbeats 1000000 in
theorem rfrom_nan (b : Nat) (w : World) (h : isN b) :
    Calls Try.prog 44 #[.float .f64 b] w fun e w' => ∃ z, e = .returned (.tuple #[z, .int .i64 2]) ∧ Nm w' z 0 ∧ Below w.heap.size w w' := by
  have o : FloatKind.f64.format.order b b = none := order_nan h
  clear h
  go_enter Try.func44, Try.ntmps44
  go_wp2
  refine bodyPost_ret (v := .tuple #[.agg #[.bool false, .slice none 0 0], .int .i64 2]) (by simp [results, Try.results44, go_sem]) rfl ⟨_, rfl, nm_zero _, ?_⟩
  exact ((Gr.refl _).alloc _).below

theorem below_all {b : Nat} (hb : b < 18446744073709551616) (h : ¬ isN b) : (Ieee.double.order b 0 == some .lt) = decide (9223372036854775808 < b) := by
  unfold isN at h
  by_cases c : b % 9223372036854775808 < 9218868437227405312
  · exact below_0 ⟨hb, c⟩
  · have : b = 9218868437227405312 ∨ b = 18442240474082181120 := by omega
    rcases this with rfl | rfl
    · rw [order_inf_pos fin_0]; rfl
    · rw [order_inf_neg fin_0]; rfl
theorem neg_word {b : Nat} (h : 9223372036854775808 ≤ b) (h' : b < 18446744073709551616) : Op.negFloat .f64 b = b - 9223372036854775808 := by
  show b ^^^ 2 ^ 63 = _
  apply Nat.eq_of_testBit_eq
  intro i
  obtain ⟨r, rfl⟩ : ∃ r, b = 2 ^ 63 + r := ⟨b - 9223372036854775808, by omega⟩
  have hr : r < 2 ^ 63 := by omega
  rw [show 2 ^ 63 + r - 9223372036854775808 = r from by omega, Nat.testBit_xor, Nat.testBit_two_pow]
  by_cases hi : 63 = i
  · subst hi
    rw [Nat.testBit_two_pow_add_eq, Nat.testBit_lt_two_pow hr]
    rfl
  · have e : 2 ^ 63 + r = 2 ^ 63 ||| r := by
      have := Nat.shiftLeft_add_eq_or_of_lt hr 1
      rw [Nat.one_shiftLeft] at this
      exact this
    rw [e, Nat.testBit_or, Nat.testBit_two_pow]
    simp [hi]
theorem fin_4e38 : fin 5184433527396409777 := by unfold fin; omega
theorem gt38 {r : Nat} (h : 5184433527396409777 < r) (h' : r ≤ 9218868437227405312) : Ieee.double.order r 5184433527396409777 = some .gt := by
  by_cases c : r = 9218868437227405312
  · subst c; exact order_inf_pos fin_4e38
  · exact pos_gt (by omega) (by omega) h

/-- The number without its sign, as a word (a nought may keep it). -/
def absW (b : Nat) : Nat := if 9223372036854775808 < b then b - 9223372036854775808 else b
theorem absW_cases {b : Nat} (hb : b < 18446744073709551616) : absW b = b % 9223372036854775808 ∨ (b = 9223372036854775808 ∧ absW b = 9223372036854775808) := by unfold absW; split <;> omega
theorem lt_n0 (c : Nat) (hc : fin c) (h0 : 0 < c) (h1 : c < 9223372036854775808) : Ieee.double.order 9223372036854775808 c = some .lt := by
  refine order_lt ⟨by omega, by omega⟩ hc ?_
  rw [sgI_neg (by omega), sgI_pos h1, show 9223372036854775808 - 9223372036854775808 = 0 from rfl, valN_zero]
  have := valN_pos h0
  omega

set_option maxRecDepth 20000 in
set_option maxHeartbeats 2000000 in
theorem rfrom_any (b : Nat) (w : World) (hb : b < 18446744073709551616) (h : ¬ isN b) :
    Calls Try.prog 44 #[.float .f64 b] w fun e w' => ∃ z, e = .returned (.tuple #[z, .int .i64 (ffE b)]) ∧ Nm w' z (ffT b) ∧ Below w.heap.size w w' := by
  have o : FloatKind.f64.format.order b b = some .eq := order_same hb h
  have o0 : (FloatKind.f64.format.order b 0 == some .lt) = decide (9223372036854775808 < b) := below_all hb h
  have k0 := Bk.new w (.bool false) (.slice none 0 0)
  have hb0 : Below w.heap.size w (w.alloc (.cells #[.bool false, .slice none 0 0] 29)) := ((Gr.refl _).alloc _).below
  go_enter Try.func44, Try.ntmps44
  go_upto_if 13 with fail
  generalize w.alloc (.cells #[.bool false, .slice none 0 0] 29) = W at *
  clear o o0
  have l0 := k0.lt
  have HS : Hid (∀ z : Int, (if decide (9223372036854775808 < b) = true then -z else z) = if 9223372036854775808 < b then -z else z) := fun z => by by_cases c : 9223372036854775808 < b <;> simp [c]
  have HW : Hid (absW b = if decide (9223372036854775808 < b) = true then Op.negFloat .f64 b else b) := by
    unfold Hid absW
    by_cases c : 9223372036854775808 < b
    · rw [if_pos c, decide_eq_true c, if_pos rfl, neg_word (by omega) hb]
    · rw [if_neg c, decide_eq_false c, if_neg (by simp)]
  generalize decide (9223372036854775808 < b) = SG at *
  go_cut [0, 4] (fun f bl w' => f = .float .f64 (absW b) ∧ bl = .bool SG ∧ w' = W)
  case first =>
    cases SG with
    | true =>
      have E : Hid (absW b = Op.negFloat .f64 b) := by unfold Hid; rw [HW.out]; simp
      have RN := neg_run b
      go_wp2
      go_meet
      exact ⟨by rw [E.out], rfl, rfl⟩
    | false =>
      have E : Hid (absW b = b) := by unfold Hid; rw [HW.out]; simp
      go_wp2
      go_meet
      exact ⟨by rw [E.out], rfl, rfl⟩
  case rest =>
    obtain ⟨rfl, rfl, rfl⟩ := hcut
    clear HW
    have hF := absW_cases hb
    by_cases hbig : 5184433527396409777 < b % 9223372036854775808
    · have hA : absW b = b % 9223372036854775808 := by rcases hF with h1 | ⟨h1, _⟩; exact h1; omega
      have hw : (5179139571476070400 ≤ b ∧ b < 9223372036854775808) ∨ 14402511608330846208 < b := by omega
      have hi : ¬ 9218868437227405312 < b % 9223372036854775808 := h
      have E1 : Hid (ffT b = 0) := by unfold Hid ffT; rw [if_neg hi, if_pos hw]
      have E2 : Hid (ffE b = 12) := by unfold Hid ffE; rw [if_neg hi, if_pos hw]
      have o : FloatKind.f64.format.order (absW b) 5184433527396409777 = some .gt := by rw [hA]; exact gt38 hbig (by omega)
      have c0 := k0.c0
      have c1 := k0.c1
      have c2 := k0.f0
      have c3 := k0.f1
      clear hA hw hi hbig hF h hb
      go_wp2
      refine bodyPost_ret (v := .tuple #[.agg #[.bool false, .slice none 0 0], .int .i64 12]) (by simp [results, Try.results44, go_sem, c0, c1]) rfl ⟨_, by rw [E2.out], ?_, ?_⟩
      · rw [E1.out]; exact nm_zero _
      · exact (hb0.setCell (by simp) _).setCell (by simp) _
    · have o : (FloatKind.f64.format.order (absW b) 5184433527396409777 == some .gt) = false := by
        rcases hF with h1 | ⟨h1, h2⟩
        · rw [h1]; exact pos_not_gt (by omega) (by omega) (by omega)
        · rw [h2]; exact (by rw [lt_n0 _ fin_4e38 (by omega) (by omega)]; rfl : (Ieee.double.order 9223372036854775808 5184433527396409777 == some .gt) = false)
      go_upto_block 0 with fail
      clear o
      go_cut [0, 5] (fun f n w' => ∃ (v k G : Nat), f = .float .f64 G ∧ n = .int .i64 (k : Int) ∧ k ≤ 100 ∧ v ≤ 9007199254740992 ∧ Hid (∀ w, (convert 66 22 (.float .f64 G)).run Try.prog w = .ok (.int .u64 (v : Int)) w) ∧ Hid (v * 2 ^ k = flo (b % 9223372036854775808)) ∧ w' = wc)
      case first =>
        by_cases hs : absW b < 4845873199050653696 ∨ absW b = 9223372036854775808
        · have o : FloatKind.f64.format.order (absW b) 4845873199050653696 = some .lt := by
            rcases hs with h1 | h1
            · exact pos_lt (by omega) (by omega) h1
            · rw [h1]; exact lt_n0 _ (by unfold fin; omega) (by omega) (by omega)
          have hC : Hid (∀ w, (convert 66 22 (.float .f64 (absW b))).run Try.prog w = .ok (.int .u64 ((flo (b % 9223372036854775808) : Nat) : Int)) w) := fun w => by
            rcases hF with h1 | ⟨h1, h2⟩
            · rw [h1]; exact conv_small (by omega) w
            · rw [h2, h1]; exact conv_neg0 w
          have hv : flo (b % 9223372036854775808) ≤ 9007199254740992 := by
            have hr : b % 9223372036854775808 < 4845873199050653696 := by omega
            unfold flo scl
            split
            · omega
            · split
              · have := Nat.div_le_self (4503599627370496 + b % 9223372036854775808 % 4503599627370496) (2 ^ (-(((b % 9223372036854775808 / 4503599627370496 : Nat) : Int) - 1075)).toNat)
                omega
              · have : (((b % 9223372036854775808 / 4503599627370496 : Nat) : Int) - 1075).toNat = 0 := by omega
                rw [this]; omega
          have hE : Hid (flo (b % 9223372036854775808) * 2 ^ 0 = flo (b % 9223372036854775808)) := by unfold Hid; omega
          clear hs hF hbig
          go_wp2
          go_rounds 1
          go_meet
          exact ⟨flo (b % 9223372036854775808), 0, absW b, rfl, rfl, by omega, hv, hC, hE, rfl⟩
        · have hA : absW b = b % 9223372036854775808 := by rcases hF with h1 | ⟨h1, h2⟩; exact h1; exact absurd (.inr h2) hs
          have hr : 4845873199050653696 ≤ b % 9223372036854775808 := by rw [← hA]; exact Nat.le_of_not_lt fun hc => hs (.inl hc)
          have hFl := flo_at (r := b % 9223372036854775808) (by omega) (by omega)
          have hN : Nrm (4503599627370496 + b % 9223372036854775808 % 4503599627370496) (b % 9223372036854775808 / 4503599627370496 - 1) := ⟨by omega, by omega, by omega⟩
          have hfw : absW b = fw false (4503599627370496 + b % 9223372036854775808 % 4503599627370496) (b % 9223372036854775808 / 4503599627370496 - 1) := by
            rw [hA]; unfold fw; simp only [Bool.false_eq_true, if_false]; omega
          have hE : b % 9223372036854775808 / 4503599627370496 - 1 ≤ 1150 := by omega
          have hE2 : 1075 ≤ b % 9223372036854775808 / 4503599627370496 - 1 := by omega
          have HFl : Hid ((4503599627370496 + b % 9223372036854775808 % 4503599627370496) * 2 ^ (b % 9223372036854775808 / 4503599627370496 - 1 - 1074) = flo (b % 9223372036854775808)) := by
            unfold Hid; rw [hFl, show b % 9223372036854775808 / 4503599627370496 - 1 - 1074 = b % 9223372036854775808 / 4503599627370496 - 1075 from by omega]
          have HB : Hid (b < 18446744073709551616) := hb
          have HW : Hid (absW b = fw false (4503599627370496 + b % 9223372036854775808 % 4503599627370496) (b % 9223372036854775808 / 4503599627370496 - 1)) := hfw
          clear hFl hfw hr hA hs hF hbig hb h
          generalize 4503599627370496 + b % 9223372036854775808 % 4503599627370496 = M at *
          generalize b % 9223372036854775808 / 4503599627370496 - 1 = E at *
          go_wp2
          go_loopg [0, 5] 2000 (fun gk f n wr => ∃ j G : Nat, gk = 2000 - j ∧ f = .float .f64 G ∧ Hid (G = fw false M (E - j)) ∧ n = .int .i64 (j : Int) ∧ j + 1074 ≤ E ∧ wr = wc)
          case atStart => exact ⟨0, absW b, rfl, rfl, HW, rfl, by omega, rfl⟩
          case round =>
            obtain ⟨j, G, hg, rfl, hG, rfl, hj, rfl⟩ := hrel
            have hNj : Nrm M (E - j) := ⟨hN.lo, hN.hi, by omega⟩
            by_cases c : j + 1075 ≤ E
            · have o : (FloatKind.f64.format.order G 4845873199050653696 == some .gt || FloatKind.f64.format.order G 4845873199050653696 == some .eq) = true := by rw [hG.out]; exact ge53_yes hNj (by omega)
              have R : ∀ w, (binOp .quo 66 (.float .f64 G) (.float .f64 4611686018427387904)).run Try.prog w = .ok (.float .f64 (fw false M (E - (j + 1)))) w := fun w => by
                have e : E - j = E - (j + 1) + 1 := by omega
                rw [hG.out, e]
                rw [e] at hNj
                exact half_run hNj w
              subst hg
              go_wp2
              go_roundg (2000 - (j + 1))
              case measure => omega
              case rel => exact ⟨j + 1, _, rfl, rfl, rfl, by go_num, by omega, rfl⟩
            · have e : E - j = 1074 := by omega
              rw [e] at hG
              have o : FloatKind.f64.format.order G 4845873199050653696 = some .lt := by
                rw [hG.out]
                have h1 := hN.hi
                have h2 : fw false M 1074 < 4845873199050653696 := by unfold fw; simp only [Bool.false_eq_true, if_false]; omega
                exact pos_lt (by omega) (by omega) h2
              have hC : Hid (∀ w, (convert 66 22 (.float .f64 G)).run Try.prog w = .ok (.int .u64 (M : Int)) w) := fun w => by rw [hG.out]; exact to_u64 ⟨hN.lo, hN.hi, by omega⟩ w
              have hM : M ≤ 9007199254740992 := by have := hN.hi; omega
              have hj' : j = E - 1074 := by omega
              have HP : Hid (M * 2 ^ j = flo (b % 9223372036854775808)) := by unfold Hid; rw [hj']; exact HFl.out
              clear hj'
              go_wp2
              go_meet
              exact ⟨M, j, G, rfl, rfl, by omega, hM, hC, HP, rfl⟩
      case rest =>
        obtain ⟨v, k, G, rfl, rfl, hk, hv, hC, hP, rfl⟩ := hcut
        have hfin : fin b := ⟨hb, by omega⟩
        have hT : Hid ((if SG = true then -((flo (b % 9223372036854775808) : Nat) : Int) else ((flo (b % 9223372036854775808) : Nat) : Int)) = trI b) := by unfold Hid trI; rw [HS.out]
        have hi : ¬ 9218868437227405312 < b % 9223372036854775808 := h
        have hW := wide_in hfin
        unfold wideB at hW
        have E1 : Hid (ffT b = if inB (trI b) = true then trI b else 0) := by
          unfold Hid ffT inB; rw [if_neg hi]
          by_cases c : inI (trI b)
          · rw [if_neg (fun hc => hW.1 hc c), if_pos (by unfold inI at c; simpa using c)]
          · rw [if_pos (hW.2 c), if_neg (by unfold inI at c; simpa using c)]
        have E2 : Hid (ffE b = if inB (trI b) = true then 0 else 12) := by
          unfold Hid ffE inB; rw [if_neg hi]
          by_cases c : inI (trI b)
          · rw [if_neg (fun hc => hW.1 hc c), if_pos (by unfold inI at c; simpa using c)]
          · rw [if_pos (hW.2 c), if_neg (by unfold inI at c; simpa using c)]
        have R := hC.out
        have hV : Hid ((v : Int) * p2 k = ((flo (b % 9223372036854775808) : Nat) : Int)) := by
          unfold Hid; rw [p2_pow, ← hP.out, ← cast_pow]
        have sV : Hid (small (v : Int)) := small_256 (by omega) (by omega)
        have sP : Hid (small (p2 k)) := small_p2 (by omega)
        have hb1 := hb0
        clear hC hP hW hi hfin hF hbig h hb
        generalize ((flo (b % 9223372036854775808) : Nat) : Int) = FL at *
        go_upto_region 13 with (first
          | (go_at_call 34; refine (uns_num (v : Int) _ (by omega) (by omega)).mono ?_; rintro e w2 ⟨z, rfl, hz, hb2⟩; obtain ⟨r2, o2, l2, c2, rfl, hz2⟩ := hz.shape; clear hz)
          | (go_at_call 53; refine (power_num k _ (by omega)).mono ?_; rintro e w3 ⟨z, rfl, hz, hb3⟩; obtain ⟨r3, o3, l3, c3, rfl, hz3⟩ := hz.shape; clear hz; replace hz2 := hmono hz2 hb3)
          | (go_at_call 27; refine (mul_num _ _ (v : Int) (p2 k) _ hz2.out hz3.out sV.out sP.out).mono ?_; rintro e w4 ⟨z, rfl, hz, hb4⟩; obtain ⟨r4, o4, l4, c4, rfl, hz4⟩ := hz.shape; clear hz))
        rw [hV.out] at hz4
        have hF0 : 0 ≤ FL := by rw [← hV.out]; exact Int.mul_nonneg (by omega) (Int.le_of_lt (p2_pos k))
        have hbl : Below wc.heap.size wc w4 := (hb2.trans (hb3.mono hb2.size)).trans (hb4.mono (Nat.le_trans hb2.size hb3.size))
        have hX6 : wc.heap.size ≤ w4.heap.size := hbl.size
        have k6 := Bk.new w4 (.bool r4) (.slice o4 l4 c4)
        have N6 := hz4.out.mono ((Gr.refl w4).alloc (.cells #[.bool r4, .slice o4 l4 c4] 29)).below
        have hbl2 : Below wc.heap.size wc (w4.alloc (.cells #[.bool r4, .slice o4 l4 c4] 29)) := hbl.trans (((Gr.refl _).alloc _).below.mono hbl.size)
        obtain rfl : r4 = false := by rw [N6.sign]; simp; omega
        replace k0 := k0.mono hbl2 k0.lt
        replace hb1 := hb1.trans (hbl2.mono hb1.size)
        clear hz2 hz3 hz4 hb2 hb3 hb4 hbl hbl2 R hV sV sP
        generalize w4.alloc (.cells #[.bool false, .slice o4 l4 c4] 29) = W5 at *
        generalize w4.heap.size = X6 at *
        have c0 := k6.c0
        have c1 := k6.f0
        go_upto_region 14 with fail
        have N7 : Hid (Nm (W5.setCell ⟨X6, 0, none⟩ (.bool SG)) (.agg #[.bool false, .slice o4 l4 c4]) FL) := N6.setBk k6 _
        replace k0 := k0.other (p := ⟨X6, 0, none⟩) (by simp only []; omega) (.bool SG)
        replace hb1 := hb1.setCell (p := ⟨X6, 0, none⟩) (by simp only []; omega) (.bool SG)
        replace k6 := k6.set0 (.bool SG)
        clear c0 c1 N6
        generalize W5.setCell ⟨X6, 0, none⟩ (.bool SG) = W6 at *
        have c0 := k6.c0
        have c1 := k6.c1
        go_upto_region 15 with (go_at_call 49; refine (trim_sign SG _ FL _ N7.out hF0).mono ?_; rintro e w7 ⟨z, rfl, hz, hg7⟩; obtain ⟨r7, o7, l7, c7, rfl, hz7⟩ := hz.shape; clear hz; have j6 := k6.mono hg7.below k6.lt; have d0 := j6.c0; have d1 := j6.c1; have d2 := j6.f0; have d3 := j6.f1)
        have lt0 := k0.lt
        have N8 : Nm ((w7.setCell ⟨X6, 0, none⟩ (.bool r7)).setCell ⟨X6, 1, none⟩ (.slice o7 l7 c7)) (.agg #[.bool r7, .slice o7 l7 c7]) (trI b) := by rw [← hT.out]; exact (hz7.out.setBk j6 _).setBk (j6.set0 _) _
        replace k0 := ((k0.mono hg7.below k0.lt).other (p := ⟨X6, 0, none⟩) (by simp only []; omega) (.bool r7)).other (p := ⟨X6, 1, none⟩) (by simp only []; omega) (.slice o7 l7 c7)
        replace hb1 := ((hb1.trans (hg7.below.mono hb1.size)).setCell (p := ⟨X6, 0, none⟩) (by simp only []; omega) (.bool r7)).setCell (p := ⟨X6, 1, none⟩) (by simp only []; omega) (.slice o7 l7 c7)
        replace k6 := (j6.set0 (.bool r7)).set1 (.slice o7 l7 c7)
        clear c0 c1 d0 d1 d2 d3 j6 hz7 hg7 N7
        generalize (w7.setCell ⟨X6, 0, none⟩ (.bool r7)).setCell ⟨X6, 1, none⟩ (.slice o7 l7 c7) = W8 at *
        have c0 := k6.c0
        have c1 := k6.c1
        have HN8 : Hid (Nm W8 (.agg #[.bool r7, .slice o7 l7 c7]) (trI b)) := N8
        clear N8
        generalize hI : inB (trI b) = I at *
        have HI : Hid (inB (trI b) = I) := hI
        clear hI
        cases I with
        | true =>
          have T1 : Hid (ffT b = trI b) := by unfold Hid; rw [E1.out]; simp
          have T2 : Hid (ffE b = 0) := by unfold Hid; rw [E2.out]; simp
          go_wp2_with (go_at_call 73; refine (fits_num _ (trI b) _ HN8.out).mono ?_; rw [HI.out]; rintro e w9 ⟨rfl, hb9⟩; have j0 := k0.mono hb9 k0.lt; have d0 := j0.c0; have d1 := j0.c1; have d2 := j0.f0; have d3 := j0.f1; have j6 := k6.mono hb9 k6.lt; have g0 := j6.c0; have g1 := j6.c1)
          refine bodyPost_ret (v := .tuple #[.agg #[.bool r7, .slice o7 l7 c7], .int .i64 0]) (by simp [results, Try.results44, go_sem, d0, d1]) rfl ⟨_, by rw [T2.out], ?_, ?_⟩
          · rw [T1.out]; exact ((HN8.out.mono hb9).setBk j0 _).setBk (j0.set0 _) _
          · have hbl := hb1.trans (hb9.mono hb1.size)
            exact (hbl.setCell (by simp) _).setCell (by simp) _
        | false =>
          have T1 : Hid (ffT b = 0) := by unfold Hid; rw [E1.out]; simp
          have T2 : Hid (ffE b = 12) := by unfold Hid; rw [E2.out]; simp
          go_wp2_with (go_at_call 73; refine (fits_num _ (trI b) _ HN8.out).mono ?_; rw [HI.out]; rintro e w9 ⟨rfl, hb9⟩; have j0 := k0.mono hb9 k0.lt; have d0 := j0.c0; have d1 := j0.c1; have d2 := j0.f0; have d3 := j0.f1)
          refine bodyPost_ret (v := .tuple #[.agg #[.bool false, .slice none 0 0], .int .i64 12]) (by simp [results, Try.results44, go_sem, d0, d1]) rfl ⟨_, by rw [T2.out], ?_, ?_⟩
          · rw [T1.out]; exact nm_zero _
          · have hbl := hb1.trans (hb9.mono hb1.size)
            exact (hbl.setCell (by simp) _).setCell (by simp) _
end Go.Proofs.Ytgpkigofbncamaa
