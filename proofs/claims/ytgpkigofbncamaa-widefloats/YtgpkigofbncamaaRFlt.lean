/- Contract of the reference's nearest real number. -/
import Derived.Test.YtgpkigofbncamaaMuls
import Derived.Test.YtgpkigofbncamaaFltW
import Derived.Deep.LoopGhost
namespace Go.Proofs.Ytgpkigofbncamaa
open Go.RowKit Go.Sort

theorem dbl_two {k : Nat} (h : k ≤ 500) (w : World) : (binOp .mul 66 (.float .f64 (fw false 4503599627370496 (1022 + k))) (.float .f64 4611686018427387904)).run Try.prog w = .ok (.float .f64 (fw false 4503599627370496 (1022 + (k + 1)))) w :=
  run_float_arith w .mul 66 .f64 _ _ _ (mul_pow2' (M := 4503599627370496) (E := 1022 + (k + 1)) (E1 := 1023) (E2 := 1022 + k) false ⟨by omega, by omega, by omega⟩ (by omega) (by omega) (by omega))
theorem fw_one : fw false 4503599627370496 (1022 + 0) = 4607182418800017408 := by decide
theorem p2_53 : p2 53 = 9007199254740992 := by decide
theorem half_of (A k : Nat) : A / 2 ^ k / 2 = A / 2 ^ (k + 1) := by rw [Nat.div_div_eq_div_mul, ← Nat.pow_succ]
theorem big_k {A k : Nat} (hA : A ≤ 170141183460469231731687303715884105728) (h : 9007199254740992 ≤ A / 2 ^ k) : k ≤ 74 := by
  apply Classical.byContradiction
  intro hc
  have h1 : 2 ^ 75 ≤ 2 ^ k := Nat.pow_le_pow_right (by omega) (by omega)
  have h2 := (Nat.le_div_iff_mul_le (Nat.two_pow_pos k)).1 h
  have h3 : 9007199254740992 * 2 ^ 75 ≤ 9007199254740992 * 2 ^ k := Nat.mul_le_mul_left _ h1
  have h4 : 9007199254740992 * 2 ^ 75 = 340282366920938463463374607431768211456 := by decide
  omega

set_option maxRecDepth 20000 in
set_option maxHeartbeats 4000000 in
theorem rfloat_num (x : Value) (m : Int) (w : World) (hx : Nm w x m) (hm : inI m) :
    Calls Try.prog 41 #[x] w fun e w' => e = .returned (.float .f64 (flI m)) ∧ Below w.heap.size w w' := by
  obtain ⟨s, ao, la, ca, rfl, hx'⟩ := hx.shape
  have hb0 := below2 w (.cells #[.bool s, .slice ao la ca] 29) (.cells #[.bool false, .slice ao la ca] 29)
  have k0 : Bk ((w.alloc (.cells #[.bool s, .slice ao la ca] 29)).alloc (.cells #[.bool false, .slice ao la ca] 29)) w.heap.size (.bool s) (.slice ao la ca) := (Bk.new w _ _).alloc _
  have hS : Hid (s = decide (m < 0)) := hx'.out.sign
  have hA : m.natAbs ≤ 170141183460469231731687303715884105728 := by unfold inI at hm; omega
  have v3 : Vr ((w.alloc (.cells #[.bool s, .slice ao la ca] 29)).alloc (.cells #[.bool false, .slice ao la ca] 29)) (w.heap.size + 1) ((m.natAbs / 2 ^ 0 : Nat) : Int) := by
    rw [Nat.pow_zero, Nat.div_one]
    exact ⟨false, ao, la, ca, Bk.new' w _ _ _, (hx'.out.mono hb0).abs⟩
  have bg := big_6000
  have HX : Hid (flI m = if s then Op.negFloat .f64 (Ieee.double.nearest false m.natAbs 0) else Ieee.double.nearest false m.natAbs 0) := by
    unfold Hid flI; rw [hS.out]; by_cases c : m < 0 <;> simp [c]
  clear hx hx' hm
  generalize m.natAbs = A at *
  go_enter Try.func41, Try.ntmps41
  go_wp2
  generalize (w.alloc (.cells #[.bool s, .slice ao la ca] 29)).alloc (.cells #[.bool false, .slice ao la ca] 29) = W at *
  have l0 := v3.lt
  have hB : Below (w.heap.size + 1) W W := Below.refl _ _
  rw [← fw_one]
  go_loopg [4, 5, 6] 200 (fun gk f h t wr => ∃ k : Nat, gk = 200 - k ∧ k ≤ 100 ∧ f = .float .f64 (fw false 4503599627370496 (1022 + k)) ∧ h = .bool (hfB A k) ∧ t = .bool (stB A k) ∧ Vr wr (w.heap.size + 1) ((A / 2 ^ k : Nat) : Int) ∧ Below (w.heap.size + 1) W wr ∧ (k = 0 ∨ 4503599627370496 ≤ A / 2 ^ k))
  case atStart => exact ⟨0, rfl, by omega, rfl, rfl, rfl, v3, hB, .inl rfl⟩
  case round =>
    clear v3 hB
    obtain ⟨k, hgk, hk, rfl, rfl, rfl, v3, hB, hlo⟩ := hrel
    have hbw : Below w.heap.size w wr := hb0.trans (hB.mono (by omega))
    have szw := hB.size
    have v3' := v3
    obtain ⟨r1, o1, l1, c1, k3, n3⟩ := v3'
    have N3 : Hid (Nm wr (.agg #[.bool r1, .slice o1 l1 c1]) ((A / 2 ^ k : Nat) : Int)) := n3
    have x0 := k3.c0
    have x1 := k3.c1
    have hAk : A / 2 ^ k ≤ A := Nat.div_le_self _ _
    have hS0 : Hid (S2 ⟨w.heap.size + 1, 0, none⟩ ⟨w.heap.size + 1, 1, none⟩ (.bool r1) (.slice o1 l1 c1) wr wr.drew) := ⟨x0, x1, (Below.refl _ _).drew⟩
    clear n3 k3
    by_cases hlt : 9007199254740992 ≤ A / 2 ^ k
    · have hk74 := big_k hA hlt
      have hc : decide (0 ≤ cmpI ((A / 2 ^ k : Nat) : Int) (p2 53)) = true := by rw [p2_53]; unfold cmpI; rw [if_neg (by omega)]; split <;> decide
      have v0 : 0 ≤ ((A / 2 ^ k : Nat) : Int) := by omega
      have v1 : ((A / 2 ^ k : Nat) : Int) < p2 6000 := by omega
      have hM1 : Hid (((A / 2 ^ k : Nat) : Int) / 2 = ((A / 2 ^ (k + 1) : Nat) : Int)) := by unfold Hid; rw [← half_of]; omega
      have hM2 : Hid (stB A (k + 1) = (stB A k || hfB A k)) := st_succ A k
      have hM3 : Hid (((A / 2 ^ k : Nat) : Int) % 2 = 1 ↔ hfB A (k + 1) = true) := by unfold Hid; rw [hf_succ]; simp only [decide_eq_true_eq]; omega
      have hM4 : 4503599627370496 ≤ A / 2 ^ (k + 1) := by rw [← half_of]; omega
      have R := dbl_two (k := k) (by omega)
      clear hAk
      generalize hV : ((A / 2 ^ k : Nat) : Int) = V at *
      have HV : Hid (((A / 2 ^ k : Nat) : Int) = V) := hV
      clear hV
      generalize hfB A k = hf at *
      generalize stB A k = st at *
      generalize fw false 4503599627370496 (1022 + k) = f1 at *
      go_wp2
      go_region_held3 (S2 ⟨w.heap.size + 1, 0, none⟩ ⟨w.heap.size + 1, 1, none⟩ (.bool r1) (.slice o1 l1 c1) wr)
        (first | with_reducible exact hS0.out | exact S2.call (by assumption) (by assumption))
        (first
          | (go_at_call 53; refine (power_num 53 _ (by omega)).mono ?_; rintro e w2 ⟨z, rfl, hz, hb2⟩; obtain ⟨r3, o3, l3, c3, rfl, hz3⟩ := hz.shape; clear hz)
          | (go_at_call 50; refine (cmps_num _ _ V (p2 53) _ (N3.out.mono (by assumption : S2 ⟨w.heap.size + 1, 0, none⟩ ⟨w.heap.size + 1, 1, none⟩ (.bool r1) (.slice o1 l1 c1) wr _).2.2) hz3.out v0 (Int.le_of_lt (p2_pos 53))).mono ?_; rintro e w4 ⟨rfl, hg4⟩; have hb4 := hg4.below))
      have hbW : Below wr.heap.size wr w4 := (by assumption : S2 ⟨w.heap.size + 1, 0, none⟩ ⟨w.heap.size + 1, 1, none⟩ (.bool r1) (.slice o1 l1 c1) wr w4).2.2
      replace hB := hB.trans (hbW.mono (by omega))
      replace hbw := hbw.trans (hbW.mono hbw.size)
      replace N3 := hmono N3 hbW
      replace v3 := v3.mono hbW
      replace x0 := below_cell x0 hbW
      replace x1 := below_cell x1 hbW
      have szw2 := hbW.size
      clear hS0 hbW hc
      go_upto_region 6 with fail
      have hlt3 := v3.lt
      go_cut [7, 8] (fun s7 s8 w' => ∃ X7 X8, s7 = .pointer (some ⟨X7, 0, none⟩) ∧ s8 = .pointer (some ⟨X8, 0, none⟩) ∧ w4.heap.size ≤ X7 ∧ w4.heap.size ≤ X8 ∧ X7 ≠ X8 ∧ Vr w' X7 (V / 2) ∧ Vr w' X8 (V % 2) ∧ Below w4.heap.size w4 w')
      case first =>
        have hS0 : Hid (S2 ⟨w.heap.size + 1, 0, none⟩ ⟨w.heap.size + 1, 1, none⟩ (.bool r1) (.slice o1 l1 c1) w4 w4.drew) := ⟨x0, x1, (Below.refl _ _).drew⟩
        have hSW : Hid (S2 ⟨w.heap.size + 1, 0, none⟩ ⟨w.heap.size + 1, 1, none⟩ (.bool r1) (.slice o1 l1 c1) w4 w4) := ⟨x0, x1, Below.refl _ _⟩
        go_region_held3 (S2 ⟨w.heap.size + 1, 0, none⟩ ⟨w.heap.size + 1, 1, none⟩ (.bool r1) (.slice o1 l1 c1) w4)
          (repeat (first | with_reducible exact hS3.out | with_reducible exact hS2.out | with_reducible exact hS0.out | with_reducible exact hSW.out | with_reducible refine S2.drew ?_ | with_reducible refine S2.alloc ?_ _ | (with_reducible refine S2.set ?_ (by simp only []; omega) (by simp only []; omega) (by simp only []; omega) _)))
          (first
            | (go_at_call 34; refine (uns_num 2 _ (by omega) (by omega)).mono ?_; rintro e y2 ⟨z, rfl, hz2, hb2⟩; obtain ⟨r2, o2, l2, c2, rfl, hz2'⟩ := hz2.shape; clear hz2; have sz2 := hb2.size; have hS2 : Hid (S2 ⟨w.heap.size + 1, 0, none⟩ ⟨w.heap.size + 1, 1, none⟩ (.bool r1) (.slice o1 l1 c1) w4 y2) := S2.call (by assumption) hb2; have sz2' : w4.heap.size ≤ y2.heap.size := hS2.out.2.2.size; first
                | (have a1 := ((Bk.new w4 (.bool false) (.slice none 0 0)).alloc (.cells #[.bool false, .slice none 0 0] 29)).drew.mono hb2 (by simp only [World.size_drew, World.size_alloc]; omega); have a2 := (Bk.new' w4 (.bool false) (.slice none 0 0) (.cells #[.bool false, .slice none 0 0] 29)).drew.mono hb2 (by simp only [World.size_drew, World.size_alloc]; omega))
                | (have a1 := (Bk.new w4 (.bool false) (.slice none 0 0)).drew.mono hb2 (by simp only [World.size_drew, World.size_alloc]; omega))
                | skip)
            | (go_at_call 64; refine (div_num _ _ (V) 2 _ ?_ ?_ v0 (by omega) v1 (by omega)).mono ?_; exact N3.out.mono (by assumption : S2 ⟨w.heap.size + 1, 0, none⟩ ⟨w.heap.size + 1, 1, none⟩ (.bool r1) (.slice o1 l1 c1) w4 _).2.2; (first | exact hz2'.out | exact hz2'.out.mono ((Gr.refl _).alloc _).below | exact hz2'.out.mono (below2 _ _ _)); rintro e y3 ⟨z1, z2, rfl, hq, hl, hb3⟩; obtain ⟨r3, o3, l3, c3, rfl, hq'⟩ := hq.shape; obtain ⟨r4, o4, l4, c4, rfl, hl'⟩ := hl.shape; clear hq hl; have sz3 := hb3.size; have hS3 : Hid (S2 ⟨w.heap.size + 1, 0, none⟩ ⟨w.heap.size + 1, 1, none⟩ (.bool r1) (.slice o1 l1 c1) w4 y3) := S2.call (by assumption) hb3; have sz3' : w4.heap.size ≤ y3.heap.size := hS3.out.2.2.size; first
                | (have p1 := a1.mono hb3 a1.lt; have p3 := a2.mono hb3 a2.lt; have e0 := p1.c0; have e1 := p1.c1; have e2 := p1.f0; have e3 := p1.f1; have e4 := p1.lt; have f0 := p3.c0; have f1 := p3.c1; have f2 := p3.f0; have f3 := p3.f1; have f4 := p3.lt)
                | (have ne1 := Nat.ne_of_lt a1.lt; have ne2 := ne1.symm; have p1 := (a1.alloc (.cells #[.bool false, .slice none 0 0] 29)).mono hb3 (Nat.lt_of_lt_of_le a1.lt (by simp only [World.size_alloc]; omega)); have p3 := (Bk.new y2 (.bool false) (.slice none 0 0)).mono hb3 (by simp only [World.size_alloc]; omega); have e0 := p1.c0; have e1 := p1.c1; have e2 := p1.f0; have e3 := p1.f1; have e4 := p1.lt; have f0 := p3.c0; have f1 := p3.c1; have f2 := p3.f0; have f3 := p3.f1; have f4 := p3.lt)
                | (have p1 := a1.mono hb3 a1.lt; have e0 := p1.c0; have e1 := p1.c1; have e2 := p1.f0; have e3 := p1.f1; have e4 := p1.lt)
                | (have p1 := ((Bk.new y2 (.bool false) (.slice none 0 0)).alloc (.cells #[.bool false, .slice none 0 0] 29)).mono hb3 (by simp only [World.size_alloc]; omega); have p3 := (Bk.new' y2 (.bool false) (.slice none 0 0) (.cells #[.bool false, .slice none 0 0] 29)).mono hb3 (by simp only [World.size_alloc]; omega); have e0 := p1.c0; have e1 := p1.c1; have e2 := p1.f0; have e3 := p1.f1; have e4 := p1.lt; have f0 := p3.c0; have f1 := p3.c1; have f2 := p3.f0; have f3 := p3.f1; have f4 := p3.lt)
                | (have p1 := (Bk.new y2 (.bool false) (.slice none 0 0)).mono hb3 (by simp only [World.size_alloc]; omega); have e0 := p1.c0; have e1 := p1.c1; have e2 := p1.f0; have e3 := p1.f1; have e4 := p1.lt)
                | skip))
        all_goals
          go_wp2
          go_meet
          case rel =>
            have hbW := hS3.out.2.2
            refine ⟨_, _, rfl, rfl, ?_, ?_, ?_, ?_⟩
            · omega
            · omega
            · omega
            · first
                | with_reducible exact finA hq'.out hl'.out hbW sz3'
                | with_reducible exact turn3 (finA hl'.out hq'.out hbW sz3')
                | with_reducible exact finB p1 hq'.out hl'.out hbW (by omega)
                | with_reducible exact turn3 (finB p1 hl'.out hq'.out hbW (by omega))
                | with_reducible exact finC p1 p3 (by omega) hq'.out hl'.out hbW (by omega) (by omega)
                | with_reducible exact finC p3 p1 (by omega) hq'.out hl'.out hbW (by omega) (by omega)
      case rest =>
        obtain ⟨X7, X8, rfl, rfl, h7, h8, hne, v7, v8, hbl⟩ := hcut
        have c0' := (v3.mono hbl)
        obtain ⟨b1, b2, b3, b4, k3, n3⟩ := c0'
        obtain ⟨lr, lo, ll, lc, kl, hl⟩ := v8
        obtain ⟨qr, qo, ql, qc, kq, nq⟩ := v7
        have hz := hl.len0
        have y1 := kl.c1
        have z0 := kq.c0
        have z1 := kq.c1
        have e0 := k3.c0
        have e1 := k3.c1
        have e2 := k3.f0
        have e3 := k3.f1
        replace hB := hB.trans (hbl.mono (by omega))
        have E1 : Vr ((wc.setCell ⟨w.heap.size + 1, 0, none⟩ (.bool qr)).setCell ⟨w.heap.size + 1, 1, none⟩ (.slice qo ql qc)) (w.heap.size + 1) ((A / 2 ^ (k + 1) : Nat) : Int) := by rw [← hM1.out]; exact Vr.put k3 nq
        have E2 := keep2 hB (Nat.le_refl _) (.bool qr) (.slice qo ql qc)
        have HE : Hid (Vr ((wc.setCell ⟨w.heap.size + 1, 0, none⟩ (.bool qr)).setCell ⟨w.heap.size + 1, 1, none⟩ (.slice qo ql qc)) (w.heap.size + 1) ((A / 2 ^ (k + 1) : Nat) : Int) ∧ Below (w.heap.size + 1) W ((wc.setCell ⟨w.heap.size + 1, 0, none⟩ (.bool qr)).setCell ⟨w.heap.size + 1, 1, none⟩ (.slice qo ql qc))) := ⟨E1, E2⟩
        have E5 : Hid (decide (0 < ll) = hfB A (k + 1)) := by
          unfold Hid
          have h3 := hM3.out
          by_cases c : V % 2 = 1
          · rw [h3.1 c]; have : ll ≠ 0 := fun e => by have := hz.1 e; omega
            simp; omega
          · have h4 : hfB A (k + 1) = false := by
              cases hh : hfB A (k + 1) with
              | false => rfl
              | true => exact absurd (h3.2 hh) c
            have : ll = 0 := hz.2 (by omega)
            rw [h4, this]; rfl
        clear E1 E2 hz hl nq n3 x0 x1 v3 hbl hb2 hb4 hg4 hz3 N3
        have hG : 200 - (k + 1) < 200 - k := by omega
        subst hgk
        cases st
        · go_wp2
          go_roundg (200 - (k + 1))
          case measure => exact hG
          case rel => exact ⟨k + 1, rfl, by omega, rfl, by rw [E5.out], by rw [hM2.out]; simp, HE.out.1, HE.out.2, .inr hM4⟩
        · go_wp2
          go_roundg (200 - (k + 1))
          case measure => exact hG
          case rel => exact ⟨k + 1, rfl, by omega, rfl, by rw [E5.out], by rw [hM2.out]; simp, HE.out.1, HE.out.2, .inr hM4⟩
    · have hc : decide (0 ≤ cmpI ((A / 2 ^ k : Nat) : Int) (p2 53)) = false := by rw [p2_53]; unfold cmpI; rw [if_pos (by omega)]; decide
      have v0 : 0 ≤ ((A / 2 ^ k : Nat) : Int) := Int.natCast_nonneg _
      have v1 : ((A / 2 ^ k : Nat) : Int) < p2 6000 := by omega
      have hK : Kof A k := by
        rcases hlo with rfl | hlo
        · left; rw [Nat.pow_zero, Nat.div_one] at hlt; exact ⟨rfl, by omega⟩
        · right
          have hp := Nat.two_pow_pos k
          exact ⟨by rw [Nat.pow_add]; exact (Nat.le_div_iff_mul_le hp).1 hlo, by rw [Nat.pow_add]; exact (Nat.div_lt_iff_lt_mul hp).1 (by omega)⟩
      have hRb := rne_bits A k
      have hM3 : Hid (((A / 2 ^ k : Nat) : Int) % 2 = 1 ↔ A / 2 ^ k % 2 = 1) := by unfold Hid; omega
      have hZ : rne A k ≤ 9007199254740992 := by
        rcases hK with ⟨rfl, h1⟩ | ⟨h1, h2⟩
        · have := rne_exact A 0; rw [Nat.pow_zero, Nat.mul_one] at this; omega
        · exact (rne_bd h1 h2).2
      have R : ∀ w, (binOp .mul 66 (.float .f64 (fw false 4503599627370496 (1022 + k))) (.float .f64 (floatOfInt .f64 ((rne A k : Nat) : Int)))).run Try.prog w = .ok (.float .f64 (Ieee.double.nearest false A 0)) w := fun w => by
        refine run_float_arith w .mul 66 .f64 _ _ _ ?_
        rw [nearest_int]
        by_cases hA0 : A = 0
        · subst hA0
          have hk0 : k = 0 := by
            rcases hK with ⟨rfl, _⟩ | ⟨h1, _⟩
            · rfl
            · have := Nat.two_pow_pos (52 + k); omega
          subst hk0
          decide
        · obtain ⟨M, E, hN, h1, h2, h3, h4, h5⟩ := ref_word (by omega) hK (by omega)
          rw [h4, h5]
          exact mul_pow2 (E := E + k) false hN (by omega) (by omega) h1
      have hsm : Hid (small ((A / 2 ^ k : Nat) : Int)) := small_256 (by have := v0; omega) (by omega)
      clear hK hlo hAk
      generalize hU : (hfB A k && (stB A k || decide (A / 2 ^ k % 2 = 1))) = U at *
      have HU : Hid ((hfB A k && (stB A k || decide (A / 2 ^ k % 2 = 1))) = U) := hU
      have HR : Hid (((rne A k : Nat) : Int) = ((A / 2 ^ k : Nat) : Int) + (if U = true then 1 else 0)) := by unfold Hid; rw [hRb]; cases U <;> simp
      clear hRb hU
      generalize hD : decide (A / 2 ^ k % 2 = 1) = D at *
      have HD : Hid (((A / 2 ^ k : Nat) : Int) % 2 = 1 ↔ D = true) := by unfold Hid; rw [← hD]; simp only [decide_eq_true_eq]; exact hM3.out
      clear hD hM3
      have vb : ((A / 2 ^ k : Nat) : Int) < 9007199254740992 := by omega
      generalize rne A k = Z at *
      generalize ((A / 2 ^ k : Nat) : Int) = V at *
      generalize hfB A k = hf at *
      generalize stB A k = st at *
      generalize fw false 4503599627370496 (1022 + k) = f1 at *
      generalize Ieee.double.nearest false A 0 = X at *
      clear hlt
      go_wp2
      go_region_held3 (S2 ⟨w.heap.size + 1, 0, none⟩ ⟨w.heap.size + 1, 1, none⟩ (.bool r1) (.slice o1 l1 c1) wr)
        (first | with_reducible exact hS0.out | exact S2.call (by assumption) (by assumption))
        (first
          | (go_at_call 53; refine (power_num 53 _ (by omega)).mono ?_; rintro e w2 ⟨z, rfl, hz, hb2⟩; obtain ⟨r3, o3, l3, c3, rfl, hz3⟩ := hz.shape; clear hz)
          | (go_at_call 50; refine (cmps_num _ _ V (p2 53) _ (N3.out.mono (by assumption : S2 ⟨w.heap.size + 1, 0, none⟩ ⟨w.heap.size + 1, 1, none⟩ (.bool r1) (.slice o1 l1 c1) wr _).2.2) hz3.out v0 (Int.le_of_lt (p2_pos 53))).mono ?_; rintro e w4 ⟨rfl, hg4⟩; have hb4 := hg4.below))
      have hbW : Below wr.heap.size wr w4 := (by assumption : S2 ⟨w.heap.size + 1, 0, none⟩ ⟨w.heap.size + 1, 1, none⟩ (.bool r1) (.slice o1 l1 c1) wr w4).2.2
      replace hB := hB.trans (hbW.mono (by omega))
      replace N3 := hmono N3 hbW
      replace v3 := v3.mono hbW
      replace x0 := below_cell x0 hbW
      replace x1 := below_cell x1 hbW
      clear hS0 hbW hc hbw
      go_upto_region 11 with fail
      have hlt3 := v3.lt
      go_cut [9, 10] (fun s7 s8 w' => ∃ X7 X8, s7 = .pointer (some ⟨X7, 0, none⟩) ∧ s8 = .pointer (some ⟨X8, 0, none⟩) ∧ w4.heap.size ≤ X7 ∧ w4.heap.size ≤ X8 ∧ X7 ≠ X8 ∧ Vr w' X7 (V / 2) ∧ Vr w' X8 (V % 2) ∧ Below w4.heap.size w4 w')
      case first =>
        have hS0 : Hid (S2 ⟨w.heap.size + 1, 0, none⟩ ⟨w.heap.size + 1, 1, none⟩ (.bool r1) (.slice o1 l1 c1) w4 w4.drew) := ⟨x0, x1, (Below.refl _ _).drew⟩
        have hSW : Hid (S2 ⟨w.heap.size + 1, 0, none⟩ ⟨w.heap.size + 1, 1, none⟩ (.bool r1) (.slice o1 l1 c1) w4 w4) := ⟨x0, x1, Below.refl _ _⟩
        go_region_held3 (S2 ⟨w.heap.size + 1, 0, none⟩ ⟨w.heap.size + 1, 1, none⟩ (.bool r1) (.slice o1 l1 c1) w4)
          (repeat (first | with_reducible exact hS3.out | with_reducible exact hS2.out | with_reducible exact hS0.out | with_reducible exact hSW.out | with_reducible refine S2.drew ?_ | with_reducible refine S2.alloc ?_ _ | (with_reducible refine S2.set ?_ (by simp only []; omega) (by simp only []; omega) (by simp only []; omega) _)))
          (first
            | (go_at_call 34; refine (uns_num 2 _ (by omega) (by omega)).mono ?_; rintro e y2 ⟨z, rfl, hz2, hb2⟩; obtain ⟨r2, o2, l2, c2, rfl, hz2'⟩ := hz2.shape; clear hz2; have sz2 := hb2.size; have hS2 : Hid (S2 ⟨w.heap.size + 1, 0, none⟩ ⟨w.heap.size + 1, 1, none⟩ (.bool r1) (.slice o1 l1 c1) w4 y2) := S2.call (by assumption) hb2; have sz2' : w4.heap.size ≤ y2.heap.size := hS2.out.2.2.size; first
                | (have a1 := ((Bk.new w4 (.bool false) (.slice none 0 0)).alloc (.cells #[.bool false, .slice none 0 0] 29)).drew.mono hb2 (by simp only [World.size_drew, World.size_alloc]; omega); have a2 := (Bk.new' w4 (.bool false) (.slice none 0 0) (.cells #[.bool false, .slice none 0 0] 29)).drew.mono hb2 (by simp only [World.size_drew, World.size_alloc]; omega))
                | (have a1 := (Bk.new w4 (.bool false) (.slice none 0 0)).drew.mono hb2 (by simp only [World.size_drew, World.size_alloc]; omega))
                | skip)
            | (go_at_call 64; refine (div_num _ _ (V) 2 _ ?_ ?_ v0 (by omega) v1 (by omega)).mono ?_; exact N3.out.mono (by assumption : S2 ⟨w.heap.size + 1, 0, none⟩ ⟨w.heap.size + 1, 1, none⟩ (.bool r1) (.slice o1 l1 c1) w4 _).2.2; (first | exact hz2'.out | exact hz2'.out.mono ((Gr.refl _).alloc _).below | exact hz2'.out.mono (below2 _ _ _)); rintro e y3 ⟨z1, z2, rfl, hq, hl, hb3⟩; obtain ⟨r3, o3, l3, c3, rfl, hq'⟩ := hq.shape; obtain ⟨r4, o4, l4, c4, rfl, hl'⟩ := hl.shape; clear hq hl; have sz3 := hb3.size; have hS3 : Hid (S2 ⟨w.heap.size + 1, 0, none⟩ ⟨w.heap.size + 1, 1, none⟩ (.bool r1) (.slice o1 l1 c1) w4 y3) := S2.call (by assumption) hb3; have sz3' : w4.heap.size ≤ y3.heap.size := hS3.out.2.2.size; first
                | (have p1 := a1.mono hb3 a1.lt; have p3 := a2.mono hb3 a2.lt; have e0 := p1.c0; have e1 := p1.c1; have e2 := p1.f0; have e3 := p1.f1; have e4 := p1.lt; have f0 := p3.c0; have f1 := p3.c1; have f2 := p3.f0; have f3 := p3.f1; have f4 := p3.lt)
                | (have ne1 := Nat.ne_of_lt a1.lt; have ne2 := ne1.symm; have p1 := (a1.alloc (.cells #[.bool false, .slice none 0 0] 29)).mono hb3 (Nat.lt_of_lt_of_le a1.lt (by simp only [World.size_alloc]; omega)); have p3 := (Bk.new y2 (.bool false) (.slice none 0 0)).mono hb3 (by simp only [World.size_alloc]; omega); have e0 := p1.c0; have e1 := p1.c1; have e2 := p1.f0; have e3 := p1.f1; have e4 := p1.lt; have f0 := p3.c0; have f1 := p3.c1; have f2 := p3.f0; have f3 := p3.f1; have f4 := p3.lt)
                | (have p1 := a1.mono hb3 a1.lt; have e0 := p1.c0; have e1 := p1.c1; have e2 := p1.f0; have e3 := p1.f1; have e4 := p1.lt)
                | (have p1 := ((Bk.new y2 (.bool false) (.slice none 0 0)).alloc (.cells #[.bool false, .slice none 0 0] 29)).mono hb3 (by simp only [World.size_alloc]; omega); have p3 := (Bk.new' y2 (.bool false) (.slice none 0 0) (.cells #[.bool false, .slice none 0 0] 29)).mono hb3 (by simp only [World.size_alloc]; omega); have e0 := p1.c0; have e1 := p1.c1; have e2 := p1.f0; have e3 := p1.f1; have e4 := p1.lt; have f0 := p3.c0; have f1 := p3.c1; have f2 := p3.f0; have f3 := p3.f1; have f4 := p3.lt)
                | (have p1 := (Bk.new y2 (.bool false) (.slice none 0 0)).mono hb3 (by simp only [World.size_alloc]; omega); have e0 := p1.c0; have e1 := p1.c1; have e2 := p1.f0; have e3 := p1.f1; have e4 := p1.lt)
                | skip))
        all_goals
          go_wp2
          go_meet
          case rel =>
            have hbW := hS3.out.2.2
            refine ⟨_, _, rfl, rfl, ?_, ?_, ?_, ?_⟩
            · omega
            · omega
            · omega
            · first
                | with_reducible exact finA hq'.out hl'.out hbW sz3'
                | with_reducible exact turn3 (finA hl'.out hq'.out hbW sz3')
                | with_reducible exact finB p1 hq'.out hl'.out hbW (by omega)
                | with_reducible exact turn3 (finB p1 hl'.out hq'.out hbW (by omega))
                | with_reducible exact finC p1 p3 (by omega) hq'.out hl'.out hbW (by omega) (by omega)
                | with_reducible exact finC p3 p1 (by omega) hq'.out hl'.out hbW (by omega) (by omega)
      case rest =>
        obtain ⟨X7, X8, rfl, rfl, h7, h8, hne, v7, v8, hbl⟩ := hcut
        replace v3 := v3.mono hbl
        replace hB := hB.trans (hbl.mono (by omega))
        obtain ⟨lr, lo, ll, lc, kl, hl⟩ := v8
        have hz := hl.len0
        have y1 := kl.c1
        have hD : Hid (decide (0 < ll) = D) := by
          unfold Hid
          have h3 := HD.out
          by_cases c : V % 2 = 1
          · rw [h3.1 c]; have : ll ≠ 0 := fun e => by have := hz.1 e; omega
            simp; omega
          · have h4 : D = false := by
              cases hh : D with
              | false => rfl
              | true => exact absurd (h3.2 hh) c
            have : ll = 0 := hz.2 (by omega)
            rw [h4, this]; rfl
        clear v7 hz hl kl hbl x0 x1 N3 hb2 hb4 hg4 hz3
        go_upto_region 12 with fail
        go_cut [50] (fun s50 w' => s50 = .bool U ∧ w' = wc)
        case first =>
          cases hf with
          | false =>
            have hU : Hid (U = false) := by unfold Hid; rw [← HU.out]; rfl
            go_wp2
            go_meet
            exact ⟨by rw [hU.out], rfl⟩
          | true =>
            cases st with
            | true =>
              have hU : Hid (U = true) := by unfold Hid; rw [← HU.out]; rfl
              go_wp2
              go_meet
              exact ⟨by rw [hU.out], rfl⟩
            | false =>
              have hU : Hid (U = D) := by unfold Hid; rw [← HU.out]; cases D <;> rfl
              go_wp2
              go_meet
              exact ⟨by rw [hU.out, ← hD.out], rfl⟩
        case rest =>
          obtain ⟨rfl, rfl⟩ := hcut
          clear y1 hD HU HD
          go_upto_if 50 with fail
          go_cut [] (fun w' => Vr w' (w.heap.size + 1) (Z : Int) ∧ Below (w.heap.size + 1) W w')
          case first =>
            cases U with
            | false =>
              have E : Hid ((Z : Int) = V) := by unfold Hid; rw [HR.out]; simp
              have HV : Hid (Vr wc (w.heap.size + 1) V) := v3
              clear v3
              go_wp2
              go_meet
              case rel => exact ⟨by rw [E.out]; exact HV.out, hB⟩
            | true =>
              have E : Hid ((Z : Int) = V + 1) := by unfold Hid; rw [HR.out]; simp
              have s2 : Hid (small 1) := small_256 (by omega) (by omega)
              have szc := v3.lt
              obtain ⟨pr, po, pl, pc, kv, hv⟩ := v3
              have e0 := kv.c0
              have e1 := kv.c1
              have HV : Hid (Nm wc (.agg #[.bool pr, .slice po pl pc]) V) := hv
              clear hv
              go_wp2
              go_region_with (first
                | (go_at_call 34; refine (uns_num 1 _ (by omega) (by omega)).mono ?_; rintro e w5 ⟨z, rfl, hz, hb2⟩; replace hb2 := drewB hb2; obtain ⟨r7, o7, l7, c7, rfl, hz'⟩ := hz.shape; clear hz; have k7 := kv.mono hb2 kv.lt; have d0 := k7.c0; have d1 := k7.c1)
                | (go_at_call 48; refine (size_num _ _ V 1 _ (HV.out.mono hb2) hz'.out v0 (by omega) hsm.out s2.out).mono ?_; rintro e w6 ⟨z, rfl, hz, hb3⟩; obtain ⟨r8, o8, l8, c8, rfl, hz2⟩ := hz.shape; clear hz; have k8 := k7.mono hb3 k7.lt; have e0' := k8.c0; have e1' := k8.c1; have e2' := k8.f0; have e3' := k8.f1; have hb5 : Below wc.heap.size wc w6 := hb2.trans (hb3.mono hb2.size)))
              all_goals
                go_wp2
                go_meet
                case rel => exact ⟨by rw [E.out]; exact Vr.put k8 hz2.out, keep2 (hB.trans (hb5.mono (by omega))) (Nat.le_refl _) _ _⟩
          case rest =>
            clear v3 hB
            obtain ⟨v3, hB⟩ := hcut
            obtain ⟨pr, po, pl, pc, kv, hv⟩ := v3
            have e0 := kv.c0
            have e1 := kv.c1
            have HV : Hid (Nm wc (.agg #[.bool pr, .slice po pl pc]) (Z : Int)) := hv
            have kb := k0.mono hB (by omega)
            have szc := hB.size
            have b0 := kb.c0
            have hbw : Below w.heap.size w wc := hb0.trans (hB.mono (by omega))
            clear hv
            cases s with
            | false =>
              have E : Hid (flI m = X) := by unfold Hid; rw [HX.out]; simp
              go_wp2_with (go_at_call 60; refine (word_num _ (Z : Int) _ HV.out (by omega) (by omega)).mono ?_; rintro e w9 ⟨rfl, g9⟩; have b1 := below_cell b0 g9.below)
              go_ret
              exact ⟨by rw [E.out]; rfl, hbw.trans (g9.below.mono hbw.size)⟩
            | true =>
              have E : Hid (flI m = Op.negFloat .f64 X) := by unfold Hid; rw [HX.out]; simp
              have RN := neg_run X
              go_wp2_with (go_at_call 60; refine (word_num _ (Z : Int) _ HV.out (by omega) (by omega)).mono ?_; rintro e w9 ⟨rfl, g9⟩; have b1 := below_cell b0 g9.below)
              go_ret
              exact ⟨by rw [E.out]; rfl, hbw.trans (g9.below.mono hbw.size)⟩
end Go.Proofs.Ytgpkigofbncamaa
