/- Contract of the reference's square root, found by halving. -/
import Derived.Test.YtgpkigofbncamaaMuls
import Derived.Test.YtgpkigofbncamaaSqrtP
import Derived.Deep.LoopGhost
namespace Go.Proofs.Ytgpkigofbncamaa
open Go.RowKit Go.Sort

set_option maxRecDepth 20000 in
set_option maxHeartbeats 4000000 in
theorem rsqrt_num (x : Value) (m r : Int) (w : World) (hx : Nm w x m) (hm : inI m) (h0 : 0 ≤ m) (hs : isSq m r) :
    Calls Try.prog 38 #[x] w fun e w' => e = .returned (.int .u64 r) ∧ Below w.heap.size w w' := by
  obtain ⟨s, ao, la, ca, rfl, hx'⟩ := hx.shape
  have hb0 := below2 w (.cells #[.bool s, .slice ao la ca] 29) (.cells #[.bool false, .slice none 0 0] 29)
  have k0 : Bk ((w.alloc (.cells #[.bool s, .slice ao la ca] 29)).alloc (.cells #[.bool false, .slice none 0 0] 29)) w.heap.size (.bool s) (.slice ao la ca) := (Bk.new w _ _).alloc _
  have v3 : Vr ((w.alloc (.cells #[.bool s, .slice ao la ca] 29)).alloc (.cells #[.bool false, .slice none 0 0] 29)) (w.heap.size + 1) 0 := by simpa using Vr.new (w.alloc (.cells #[.bool s, .slice ao la ca] 29))
  have hX : Hid (Nm w (.agg #[.bool s, .slice ao la ca]) m) := hx'
  have H0 : Hid (Hv m 0 18446744073709551616) := Hv.start h0 hm
  have HI : Hid (isSq m r) := hs
  have bg := big_6000
  clear hx hx' hm h0 hs
  go_enter Try.func38, Try.ntmps38
  go_upto_region 2 with fail
  generalize (w.alloc (.cells #[.bool s, .slice ao la ca] 29)).alloc (.cells #[.bool false, .slice none 0 0] 29) = W at *
  go_wp2_with (go_at_call 53; refine (power_num 64 _ (by omega)).mono ?_; rintro e w1 ⟨z, rfl, hz, hb1⟩; obtain ⟨t, bo, lb, cb, rfl, hz1⟩ := hz.shape; clear hz)
  have v4 := Vr.made hz1.out
  rw [p2_64] at v4
  have l0 := v3.lt
  have hX4 : W.heap.size ≤ w1.heap.size := hb1.size
  have hb1' : Below W.heap.size W (w1.alloc (.cells #[.bool t, .slice bo lb cb] 29)) := hb1.trans (((Gr.refl _).alloc _).below.mono hb1.size)
  replace v3 := v3.mono hb1'
  have hB := hb1'.mono (Nat.le_of_lt l0)
  clear hz1 hb1 hb1'
  generalize w1.alloc (.cells #[.bool t, .slice bo lb cb] 29) = W1 at *
  generalize w1.heap.size = X4 at *
  go_loopg [] 18446744073709551616 (fun k wr => ∃ lo hi : Int, (hi - lo).toNat ≤ k ∧ Hid (Hv m lo hi) ∧ Vr wr (w.heap.size + 1) lo ∧ Vr wr X4 hi ∧ Below (w.heap.size + 1) W wr)
  case atStart => exact ⟨0, 18446744073709551616, by omega, H0, v3, v4, hB⟩
  case round =>
    clear v3 v4 hB H0
    obtain ⟨lo, hi, hk, hH, v3, v4, hB⟩ := hrel
    have q1 := hH.out.l0
    have q2 := hH.out.lt
    have q3 := hH.out.top
    have hbw : Below w.heap.size w wr := hb0.trans (hB.mono (by omega))
    have szw := hB.size
    have v3' := v3
    have v4' := v4
    obtain ⟨r1, o1, l1, c1, k3, n3⟩ := v3'
    obtain ⟨r2, o2, l2, c2, k4, n4⟩ := v4'
    have N3 : Hid (Nm wr (.agg #[.bool r1, .slice o1 l1 c1]) lo) := n3
    have N4 : Hid (Nm wr (.agg #[.bool r2, .slice o2 l2 c2]) hi) := n4
    have x0 := k3.c0
    have x1 := k3.c1
    have y0 := k4.c0
    have y1 := k4.c1
    have s1 : Hid (small lo) := small_256 (by omega) (by omega)
    have s2 : Hid (small hi) := small_256 (by omega) (by omega)
    have s3 : Hid (small 1) := small_256 (by omega) (by omega)
    have hK : wr.heap.size ≤ wr.heap.size := Nat.le_refl _
    have hS0 : Hid (S4 ⟨w.heap.size + 1, 0, none⟩ ⟨w.heap.size + 1, 1, none⟩ ⟨X4, 0, none⟩ ⟨X4, 1, none⟩ (.bool r1) (.slice o1 l1 c1) (.bool r2) (.slice o2 l2 c2) wr.heap.size wr wr.drew) := ⟨x0, x1, y0, y1, (Below.refl _ _).drew⟩
    clear n3 n4 k3 k4
    by_cases hlt : lo + 1 < hi
    · have hc : decide (cmpI (lo + 1) hi < 0) = true := by unfold cmpI; rw [if_pos hlt]; decide
      go_wp2
      go_region_held3 (S4 ⟨w.heap.size + 1, 0, none⟩ ⟨w.heap.size + 1, 1, none⟩ ⟨X4, 0, none⟩ ⟨X4, 1, none⟩ (.bool r1) (.slice o1 l1 c1) (.bool r2) (.slice o2 l2 c2) wr.heap.size wr)
        (first | with_reducible exact hS0.out | exact S4.call (by assumption) hK (by assumption))
        (first
          | (go_at_call 34; refine (uns_num 1 _ (by omega) (by omega)).mono ?_; rintro e w2 ⟨z, rfl, hz, hb2⟩; obtain ⟨r3, o3, l3, c3, rfl, hz3⟩ := hz.shape; clear hz)
          | (go_at_call 12; refine (add_num _ _ lo 1 _ (N3.out.mono (by assumption : S4 ⟨w.heap.size + 1, 0, none⟩ ⟨w.heap.size + 1, 1, none⟩ ⟨X4, 0, none⟩ ⟨X4, 1, none⟩ (.bool r1) (.slice o1 l1 c1) (.bool r2) (.slice o2 l2 c2) wr.heap.size wr _).2.2.2.2) hz3.out s1.out s3.out).mono ?_; rintro e w3 ⟨z, rfl, hz, hb3⟩; obtain ⟨r4, o4, l4, c4, rfl, hz4⟩ := hz.shape; clear hz)
          | (go_at_call 22; refine (cmp_num _ _ (lo + 1) hi _ hz4.out (N4.out.mono (by assumption : S4 ⟨w.heap.size + 1, 0, none⟩ ⟨w.heap.size + 1, 1, none⟩ ⟨X4, 0, none⟩ ⟨X4, 1, none⟩ (.bool r1) (.slice o1 l1 c1) (.bool r2) (.slice o2 l2 c2) wr.heap.size wr _).2.2.2.2)).mono ?_; rintro e w4 ⟨rfl, hg4⟩; have hb4 := hg4.below))
      have hbW : Below wr.heap.size wr w4 := (by assumption : S4 ⟨w.heap.size + 1, 0, none⟩ ⟨w.heap.size + 1, 1, none⟩ ⟨X4, 0, none⟩ ⟨X4, 1, none⟩ (.bool r1) (.slice o1 l1 c1) (.bool r2) (.slice o2 l2 c2) wr.heap.size wr w4).2.2.2.2
      replace hB := hB.trans (hbW.mono (by omega))
      replace hbw := hbw.trans (hbW.mono hbw.size)
      replace N3 := hmono N3 hbW
      replace N4 := hmono N4 hbW
      replace v3 := v3.mono hbW
      replace v4 := v4.mono hbW
      replace x0 := below_cell x0 hbW
      replace x1 := below_cell x1 hbW
      replace y0 := below_cell y0 hbW
      replace y1 := below_cell y1 hbW
      have szw2 := hbW.size
      clear hS0 hbW hK
      go_upto_region 4 with fail
      clear hb2 hb3 hb4 hg4 hz3 hz4
      go_upto_region 5 with (first
        | (go_at_call 12; refine (add_num _ _ lo hi _ N3.out N4.out s1.out s2.out).mono ?_; rintro e w5 ⟨z, rfl, hz, hb5⟩; obtain ⟨r5, o5, l5, c5, rfl, hz5⟩ := hz.shape; clear hz)
        | (go_at_call 34; refine (uns_num 2 _ (by omega) (by omega)).mono ?_; rintro e w6 ⟨z, rfl, hz, hb6⟩; obtain ⟨r7, o7, l7, c7, rfl, hz7⟩ := hz.shape; clear hz; replace hz5 := hmono hz5 hb6)
        | (go_at_call 64; refine (div_num _ _ (lo + hi) 2 _ hz5.out hz7.out (by omega) (by omega) (by omega) (by omega)).mono ?_; rintro e w7 ⟨z1, z2, rfl, hq, hl, hb7⟩; obtain ⟨r6, o6, l6, c6, rfl, hq'⟩ := hq.shape; obtain ⟨r8, o8, l8, c8, rfl, hl'⟩ := hl.shape; clear hq hl))
      have hb8 : Below w4.heap.size w4 w7 := (hb5.trans (hb6.mono hb5.size)).trans (hb7.mono (Nat.le_trans hb5.size hb6.size))
      have k5 : Bk ((w7.alloc (.cells #[.bool r6, .slice o6 l6 c6] 29)).alloc (.cells #[.bool r8, .slice o8 l8 c8] 29)) w7.heap.size (.bool r6) (.slice o6 l6 c6) := (Bk.new w7 _ _).alloc _
      have N5 : Hid (Nm ((w7.alloc (.cells #[.bool r6, .slice o6 l6 c6] 29)).alloc (.cells #[.bool r8, .slice o8 l8 c8] 29)) (.agg #[.bool r6, .slice o6 l6 c6]) ((lo + hi) / 2)) := hmono hq' (below2 _ _ _)
      have hb9 : Below w4.heap.size w4 ((w7.alloc (.cells #[.bool r6, .slice o6 l6 c6] 29)).alloc (.cells #[.bool r8, .slice o8 l8 c8] 29)) := hb8.trans ((below2 _ _ _).mono hb8.size)
      have hX5 : w4.heap.size ≤ w7.heap.size := hb8.size
      clear hz5 hz7 hq' hl' hb5 hb6 hb7 hb8 x0 x1 y0 y1 N3 N4
      generalize (w7.alloc (.cells #[.bool r6, .slice o6 l6 c6] 29)).alloc (.cells #[.bool r8, .slice o8 l8 c8] 29) = w8 at *
      generalize w7.heap.size = X5 at *
      have lt3 := v3.lt
      have lt4 := v4.lt
      replace v3 := v3.mono hb9
      replace v4 := v4.mono hb9
      replace hB := hB.trans (hb9.mono (by omega))
      replace hbw := hbw.trans (hb9.mono (by omega))
      clear hb9
      have kb := k0.mono hB (by omega)
      have x0 := kb.c0
      have x1 := kb.c1
      have y0 := k5.c0
      have y1 := k5.c1
      have NM : Hid (Nm w8 (.agg #[.bool s, .slice ao la ca]) m) := hmono hX hbw
      have hM0 : 0 ≤ (lo + hi) / 2 := by omega
      have s5 : Hid (small ((lo + hi) / 2)) := small_256 (by omega) (by omega)
      have hK : w8.heap.size ≤ w8.heap.size := Nat.le_refl _
      have hS0 : Hid (S4 ⟨w.heap.size, 0, none⟩ ⟨w.heap.size, 1, none⟩ ⟨X5, 0, none⟩ ⟨X5, 1, none⟩ (.bool s) (.slice ao la ca) (.bool r6) (.slice o6 l6 c6) w8.heap.size w8 w8.drew) := ⟨x0, x1, y0, y1, (Below.refl _ _).drew⟩
      clear kb
      generalize hMid : (lo + hi) / 2 = M at *
      by_cases hq : M * M ≤ m
      · have hd : decide (cmpI (M * M) m ≤ 0) = true := by unfold cmpI; split <;> (try split) <;> simp <;> omega
        have HN : Hid (Hv m M hi) := by subst hMid; exact hH.out.up hlt hq
        clear hq
        go_region_held3 (S4 ⟨w.heap.size, 0, none⟩ ⟨w.heap.size, 1, none⟩ ⟨X5, 0, none⟩ ⟨X5, 1, none⟩ (.bool s) (.slice ao la ca) (.bool r6) (.slice o6 l6 c6) w8.heap.size w8)
          (first | with_reducible exact hS0.out | exact S4.call (by assumption) hK (by assumption))
          (first
            | (go_at_call 27; refine (mul_num _ _ M M _ (N5.out.mono (by assumption : S4 ⟨w.heap.size, 0, none⟩ ⟨w.heap.size, 1, none⟩ ⟨X5, 0, none⟩ ⟨X5, 1, none⟩ (.bool s) (.slice ao la ca) (.bool r6) (.slice o6 l6 c6) w8.heap.size w8 _).2.2.2.2) (N5.out.mono (by assumption : S4 ⟨w.heap.size, 0, none⟩ ⟨w.heap.size, 1, none⟩ ⟨X5, 0, none⟩ ⟨X5, 1, none⟩ (.bool s) (.slice ao la ca) (.bool r6) (.slice o6 l6 c6) w8.heap.size w8 _).2.2.2.2) s5.out s5.out).mono ?_; rintro e w9 ⟨z, rfl, hz, hb9⟩; obtain ⟨r9, o9, l9, c9, rfl, hz9⟩ := hz.shape; clear hz)
            | (go_at_call 22; refine (cmp_num _ _ (M * M) m _ hz9.out (NM.out.mono (by assumption : S4 ⟨w.heap.size, 0, none⟩ ⟨w.heap.size, 1, none⟩ ⟨X5, 0, none⟩ ⟨X5, 1, none⟩ (.bool s) (.slice ao la ca) (.bool r6) (.slice o6 l6 c6) w8.heap.size w8 _).2.2.2.2)).mono ?_; rintro e w10 ⟨rfl, hg10⟩; have hb10 := hg10.below))
        have hbW : Below w8.heap.size w8 w10 := (by assumption : S4 ⟨w.heap.size, 0, none⟩ ⟨w.heap.size, 1, none⟩ ⟨X5, 0, none⟩ ⟨X5, 1, none⟩ (.bool s) (.slice ao la ca) (.bool r6) (.slice o6 l6 c6) w8.heap.size w8 w10).2.2.2.2
        have lt3' := v3.lt
        have lt4' := v4.lt
        replace v3 := v3.mono hbW
        replace v4 := v4.mono hbW
        replace hB := hB.trans (hbW.mono (by omega))
        replace y0 := below_cell y0 hbW
        replace y1 := below_cell y1 hbW
        replace N5 := hmono N5 hbW
        clear hS0 hbW hK x0 x1
        obtain ⟨a1, a2, a3, a4, k3, n3⟩ := v3
        have x0 := k3.c0
        have x1 := k3.c1
        have x2 := k3.f0
        have x3 := k3.f1
        go_wp2
        go_roundg ((hi - M).toNat)
        case measure => omega
        case rel => exact ⟨M, hi, Nat.le_refl _, HN, Vr.put k3 N5.out, Vr.keep k3 v4 (by omega) _ _, keep2 hB (Nat.le_refl _) _ _⟩
      · have hd : decide (cmpI (M * M) m ≤ 0) = false := by unfold cmpI; rw [if_neg (by omega), if_pos (by omega)]; decide
        have HN : Hid (Hv m lo M) := by subst hMid; exact hH.out.down hlt (by omega)
        clear hq
        go_region_held3 (S4 ⟨w.heap.size, 0, none⟩ ⟨w.heap.size, 1, none⟩ ⟨X5, 0, none⟩ ⟨X5, 1, none⟩ (.bool s) (.slice ao la ca) (.bool r6) (.slice o6 l6 c6) w8.heap.size w8)
          (first | with_reducible exact hS0.out | exact S4.call (by assumption) hK (by assumption))
          (first
            | (go_at_call 27; refine (mul_num _ _ M M _ (N5.out.mono (by assumption : S4 ⟨w.heap.size, 0, none⟩ ⟨w.heap.size, 1, none⟩ ⟨X5, 0, none⟩ ⟨X5, 1, none⟩ (.bool s) (.slice ao la ca) (.bool r6) (.slice o6 l6 c6) w8.heap.size w8 _).2.2.2.2) (N5.out.mono (by assumption : S4 ⟨w.heap.size, 0, none⟩ ⟨w.heap.size, 1, none⟩ ⟨X5, 0, none⟩ ⟨X5, 1, none⟩ (.bool s) (.slice ao la ca) (.bool r6) (.slice o6 l6 c6) w8.heap.size w8 _).2.2.2.2) s5.out s5.out).mono ?_; rintro e w9 ⟨z, rfl, hz, hb9⟩; obtain ⟨r9, o9, l9, c9, rfl, hz9⟩ := hz.shape; clear hz)
            | (go_at_call 22; refine (cmp_num _ _ (M * M) m _ hz9.out (NM.out.mono (by assumption : S4 ⟨w.heap.size, 0, none⟩ ⟨w.heap.size, 1, none⟩ ⟨X5, 0, none⟩ ⟨X5, 1, none⟩ (.bool s) (.slice ao la ca) (.bool r6) (.slice o6 l6 c6) w8.heap.size w8 _).2.2.2.2)).mono ?_; rintro e w10 ⟨rfl, hg10⟩; have hb10 := hg10.below))
        have hbW : Below w8.heap.size w8 w10 := (by assumption : S4 ⟨w.heap.size, 0, none⟩ ⟨w.heap.size, 1, none⟩ ⟨X5, 0, none⟩ ⟨X5, 1, none⟩ (.bool s) (.slice ao la ca) (.bool r6) (.slice o6 l6 c6) w8.heap.size w8 w10).2.2.2.2
        have lt3' := v3.lt
        have lt4' := v4.lt
        replace v3 := v3.mono hbW
        replace v4 := v4.mono hbW
        replace hB := hB.trans (hbW.mono (by omega))
        replace y0 := below_cell y0 hbW
        replace y1 := below_cell y1 hbW
        replace N5 := hmono N5 hbW
        clear hS0 hbW hK x0 x1
        obtain ⟨a1, a2, a3, a4, k4, n4⟩ := v4
        have x0 := k4.c0
        have x1 := k4.c1
        have x2 := k4.f0
        have x3 := k4.f1
        go_wp2
        go_roundg ((M - lo).toNat)
        case measure => omega
        case rel => exact ⟨lo, M, Nat.le_refl _, HN, Vr.keep k4 v3 (by omega) _ _, Vr.put k4 N5.out, keep2 hB (by omega) _ _⟩
    · have hc : decide (cmpI (lo + 1) hi < 0) = false := by unfold cmpI; rw [if_neg hlt]; split <;> decide
      have E : Hid (r = lo) := sq_one HI.out (hH.out.done (by omega))
      go_wp2
      go_region_held3 (S4 ⟨w.heap.size + 1, 0, none⟩ ⟨w.heap.size + 1, 1, none⟩ ⟨X4, 0, none⟩ ⟨X4, 1, none⟩ (.bool r1) (.slice o1 l1 c1) (.bool r2) (.slice o2 l2 c2) wr.heap.size wr)
        (first | with_reducible exact hS0.out | exact S4.call (by assumption) hK (by assumption))
        (first
          | (go_at_call 34; refine (uns_num 1 _ (by omega) (by omega)).mono ?_; rintro e w2 ⟨z, rfl, hz, hb2⟩; obtain ⟨r3, o3, l3, c3, rfl, hz3⟩ := hz.shape; clear hz)
          | (go_at_call 12; refine (add_num _ _ lo 1 _ (N3.out.mono (by assumption : S4 ⟨w.heap.size + 1, 0, none⟩ ⟨w.heap.size + 1, 1, none⟩ ⟨X4, 0, none⟩ ⟨X4, 1, none⟩ (.bool r1) (.slice o1 l1 c1) (.bool r2) (.slice o2 l2 c2) wr.heap.size wr _).2.2.2.2) hz3.out s1.out s3.out).mono ?_; rintro e w3 ⟨z, rfl, hz, hb3⟩; obtain ⟨r4, o4, l4, c4, rfl, hz4⟩ := hz.shape; clear hz)
          | (go_at_call 22; refine (cmp_num _ _ (lo + 1) hi _ hz4.out (N4.out.mono (by assumption : S4 ⟨w.heap.size + 1, 0, none⟩ ⟨w.heap.size + 1, 1, none⟩ ⟨X4, 0, none⟩ ⟨X4, 1, none⟩ (.bool r1) (.slice o1 l1 c1) (.bool r2) (.slice o2 l2 c2) wr.heap.size wr _).2.2.2.2)).mono ?_; rintro e w4 ⟨rfl, hg4⟩; have hb4 := hg4.below))
      have hbW : Below wr.heap.size wr w4 := (by assumption : S4 ⟨w.heap.size + 1, 0, none⟩ ⟨w.heap.size + 1, 1, none⟩ ⟨X4, 0, none⟩ ⟨X4, 1, none⟩ (.bool r1) (.slice o1 l1 c1) (.bool r2) (.slice o2 l2 c2) wr.heap.size wr w4).2.2.2.2
      replace hbw := hbw.trans (hbW.mono hbw.size)
      replace N3 := hmono N3 hbW
      replace x0 := below_cell x0 hbW
      replace x1 := below_cell x1 hbW
      clear hS0 hbW hK y0 y1
      go_wp2_with (go_at_call 60; refine (word_num _ lo _ N3.out (by omega) (by omega)).mono ?_; rintro e w5 ⟨rfl, hg5⟩)
      go_ret
      exact ⟨by rw [E.out]; rfl, hbw.trans (hg5.below.mono hbw.size)⟩
end Go.Proofs.Ytgpkigofbncamaa
