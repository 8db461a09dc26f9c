/- Contract of the reference's quotient and what is left. -/
import Derived.Test.YtgpkigofbncamaaMuls
import Derived.Test.YtgpkigofbncamaaQuo
namespace Go.Proofs.Ytgpkigofbncamaa
open Go.RowKit Go.Sort

/-- Noughts struck off a size, with a sign set beside it. -/
theorem trim_sign (b : Bool) (sl : Value) (n : Int) (w : World) (h : Nm w (.agg #[.bool false, sl]) n) (hn : 0 ≤ n) :
    Calls Try.prog 49 #[.agg #[.bool b, sl]] w fun e w' => ∃ z, e = .returned z ∧ Nm w' z (if b then -n else n) ∧ Gr w w' := by
  obtain ⟨ao, cap, l, e, hR, hnn, hv⟩ := h
  simp only [Value.agg.injEq, Array.mk.injEq, List.cons.injEq, and_true] at e
  rw [e.2]
  refine (trim_num b ao cap l w hR).mono ?_
  rintro e' w' ⟨rfl, hg⟩
  have hR' := hR.trim
  have hv' : vals (trim l) = ((if b then -n else n).natAbs : Int) := by
    rw [trim_vals, hv]
    cases b <;> simp
  refine ⟨_, rfl, ⟨ao, cap, trim l, ?_, hR'.mono hg.below, trim_nrm l, hv'⟩, hg⟩
  rw [flag (n := if b then -n else n) (r := b) hR'.dig (trim_nrm l) hv']
  · intro hb; subst hb; simp; omega
  · intro hb; subst hb; simp; omega

theorem absI_nat (v : Int) : (v.natAbs : Int) = absI v := abs_nat v
theorem qS_nn {m d : Int} (h0 : 0 ≤ absI m / absI d) : 0 ≤ qS m d := by unfold qS; split <;> omega

set_option maxRecDepth 20000 in
set_option maxHeartbeats 4000000 in
theorem rquo_num (x : Value) (m d : Int) (w : World) (hx : Nm w x m) (hm : inI m) (hd : inW d) (h0 : d ≠ 0) :
    Calls Try.prog 36 #[x, .int .i64 d] w fun e w' => ∃ z1 z2, e = .returned (.tuple #[z1, z2]) ∧ Nm w' z1 (qI m d) ∧ Nm w' z2 (qR m d) ∧ Below w.heap.size w w' := by
  obtain ⟨s, ao, la, ca, rfl, hx'⟩ := hx.shape
  have b3 := below3 w (.cells #[.bool s, .slice ao la ca] 29) (.cells #[.bool false, .slice none 0 0] 29) (.cells #[.bool false, .slice none 0 0] 29)
  have k0 : Bk (((w.alloc (.cells #[.bool s, .slice ao la ca] 29)).alloc (.cells #[.bool false, .slice none 0 0] 29)).alloc (.cells #[.bool false, .slice none 0 0] 29)) w.heap.size (.bool s) (.slice ao la ca) := ((Bk.new w _ _).alloc _).alloc _
  have k1 : Bk (((w.alloc (.cells #[.bool s, .slice ao la ca] 29)).alloc (.cells #[.bool false, .slice none 0 0] 29)).alloc (.cells #[.bool false, .slice none 0 0] 29)) (w.heap.size + 1) (.bool false) (.slice none 0 0) := by simpa using (Bk.new (w.alloc (.cells #[.bool s, .slice ao la ca] 29)) (.bool false) (.slice none 0 0)).alloc (.cells #[.bool false, .slice none 0 0] 29)
  have k2 : Bk (((w.alloc (.cells #[.bool s, .slice ao la ca] 29)).alloc (.cells #[.bool false, .slice none 0 0] 29)).alloc (.cells #[.bool false, .slice none 0 0] 29)) (w.heap.size + 1 + 1) (.bool false) (.slice none 0 0) := by simpa using Bk.new ((w.alloc (.cells #[.bool s, .slice ao la ca] 29)).alloc (.cells #[.bool false, .slice none 0 0] 29)) (.bool false) (.slice none 0 0)
  have hX0 := hx'.out.mono b3
  have hS : Hid (s = decide (m < 0)) := hX0.sign
  have hX : Hid (Nm (((w.alloc (.cells #[.bool s, .slice ao la ca] 29)).alloc (.cells #[.bool false, .slice none 0 0] 29)).alloc (.cells #[.bool false, .slice none 0 0] 29)) (.agg #[.bool false, .slice ao la ca]) (absI m)) := by
    have := hX0.abs
    rw [absI_nat] at this
    exact this
  have HD : Hid (inW d) := hd
  obtain ⟨a0, a1⟩ := abs_in hm
  obtain ⟨d0, d1⟩ := abs_word hd.1 hd.2 h0
  obtain ⟨q0, q1, q2, q3⟩ := div_bd a0 d0
  have bg := big_6000
  clear hx hx' hX0 hm hd h0
  go_enter Try.func36, Try.ntmps36
  go_upto_region 1 with fail
  generalize ((w.alloc (.cells #[.bool s, .slice ao la ca] 29)).alloc (.cells #[.bool false, .slice none 0 0] 29)).alloc (.cells #[.bool false, .slice none 0 0] 29) = W at *
  go_upto_region 2 with (go_at_call 28; refine (of_num d _ HD.out.1 HD.out.2).mono ?_; rintro e w1 ⟨z, rfl, hz, hb1⟩; obtain ⟨t, bo, lb, cb, rfl, hz1⟩ := hz.shape; clear hz)
  have hb1' : Below W.heap.size W (w1.alloc (.cells #[.bool t, .slice bo lb cb] 29)) := hb1.trans (((Gr.refl _).alloc _).below.mono hb1.size)
  have k6 := Bk.new w1 (.bool t) (.slice bo lb cb)
  have hX6 : W.heap.size ≤ w1.heap.size := hb1.size
  have hZ := hz1.out.mono ((Gr.refl w1).alloc (.cells #[.bool t, .slice bo lb cb] 29)).below
  have hT : Hid (t = decide (d < 0)) := hZ.sign
  have hY : Hid (Nm (w1.alloc (.cells #[.bool t, .slice bo lb cb] 29)) (.agg #[.bool false, .slice bo lb cb]) (absI d)) := by
    have := hZ.abs
    rw [absI_nat] at this
    exact this
  have l0 := k0.lt
  have l1 := k1.lt
  have l2 := k2.lt
  replace hX := hmono hX hb1'
  replace k0 := k0.mono hb1' l0
  replace k1 := k1.mono hb1' l1
  replace k2 := k2.mono hb1' l2
  have hG := b3.trans (hb1'.mono b3.size)
  clear hz1 hZ hb1 b3
  generalize w1.alloc (.cells #[.bool t, .slice bo lb cb] 29) = W1 at *
  generalize w1.heap.size = X6 at *
  have c0 := k0.c0
  have c1 := k0.c1
  have c2 := k6.c0
  have c3 := k6.c1
  go_upto_region 3 with (go_at_call 64; refine (div_num _ _ (absI m) (absI d) _ hX.out hY.out a0 d0 (by omega) (by omega)).mono ?_; rintro e w2 ⟨z1, z2, rfl, hq, hl, hb3⟩; obtain ⟨r3, o3, l3, c3', rfl, hq'⟩ := hq.shape; obtain ⟨r4, o4, l4, c4, rfl, hl'⟩ := hl.shape; clear hq hl)
  obtain ⟨v7, v8, hbl⟩ := finA hq'.out hl'.out hb3 hb3.size
  have hX7 : W1.heap.size ≤ w2.heap.size := hb3.size
  clear hq' hl' hb3 c0 c1 c2 c3 hX
  generalize (w2.alloc (.cells #[.bool r3, .slice o3 l3 c3'] 29)).alloc (.cells #[.bool r4, .slice o4 l4 c4] 29) = W2 at *
  generalize w2.heap.size = X7 at *
  have c0 := (k0.mono hbl k0.lt).c0
  have v8' := v8
  obtain ⟨lr, lo, ll, lc, kl, hl⟩ := v8'
  have y1 := kl.c1
  have hz := hl.len0
  clear kl hl
  go_cut [28] (fun s28 w' => s28 = .bool (decide (m < 0 ∧ absI m % absI d ≠ 0)) ∧ w' = W2)
  case first =>
    by_cases hc : m < 0 ∧ absI m % absI d ≠ 0
    · obtain rfl : s = true := by rw [hS.out]; simp [hc.1]
      have hll : 0 < ll := by have := fun e => hc.2 (hz.1 e); omega
      have HT : Hid (decide (m < 0 ∧ absI m % absI d ≠ 0) = true) := by unfold Hid; simp [hc]
      clear hc hz hS
      go_wp2
      go_meet
      case rel => exact ⟨by rw [HT.out], rfl⟩
    · have HT : Hid (decide (m < 0 ∧ absI m % absI d ≠ 0) = false) := decide_eq_false hc
      by_cases hn0 : m < 0
      · obtain rfl : s = true := by rw [hS.out]; simp [hn0]
        have hll : ll = 0 := hz.2 (by apply Classical.byContradiction; intro hh; exact hc ⟨hn0, hh⟩)
        subst hll
        clear hc hz hS
        go_wp2
        go_meet
        case rel => exact ⟨by rw [HT.out], rfl⟩
      · obtain rfl : s = false := by rw [hS.out]; simp [hn0]
        clear hc hz hS
        go_wp2
        go_meet
        case rel => exact ⟨by rw [HT.out], rfl⟩
  case rest =>
    obtain ⟨rfl, rfl⟩ := hcut
    clear hz y1 c0
    generalize hTT : decide (m < 0 ∧ absI m % absI d ≠ 0) = T
    have HT : Hid (decide (m < 0 ∧ absI m % absI d ≠ 0) = T) := hTT
    clear hTT
    go_upto_if 28 with fail
    go_cut [] (fun w' => Vr w' X7 (qS m d) ∧ Vr w' (X7 + 1) (qR m d) ∧ Below W1.heap.size W1 w')
    case first =>
      cases T with
      | false =>
        have hc := of_decide_eq_false HT.out
        have E1 : Hid (absI m / absI d = qS m d) := by unfold Hid qS; rw [if_neg hc]
        have E2 : Hid (absI m % absI d = qR m d) := by unfold Hid qR; rw [if_neg hc]
        clear hc
        have V7 : Hid (Vr wc X7 (absI m / absI d)) := v7
        have V8 : Hid (Vr wc (X7 + 1) (absI m % absI d)) := v8
        go_wp2
        go_meet
        case rel => exact ⟨by rw [← E1.out]; exact V7.out, by rw [← E2.out]; exact V8.out, hbl⟩
      | true =>
        have hc := of_decide_eq_true HT.out
        have E1 : Hid (absI m / absI d + 1 = qS m d) := by unfold Hid qS; rw [if_pos hc]
        have E2 : Hid (absI d - absI m % absI d = qR m d) := by unfold Hid qR; rw [if_pos hc]
        clear hc
        obtain ⟨pr, po, pl, pc, kv, hv⟩ := v7
        have e0 := kv.c0
        have e1 := kv.c1
        have HV : Hid (Nm wc (.agg #[.bool pr, .slice po pl pc]) (absI m / absI d)) := hv
        have s1 : Hid (small (absI m / absI d)) := small_256 (by omega) (by omega)
        have s2 : Hid (small 1) := small_256 (by omega) (by omega)
        clear hv
        go_wp2
        go_region_with (first
          | (go_at_call 34; refine (uns_num 1 _ (by omega) (by omega)).mono ?_; rintro e w5 ⟨z, rfl, hz, hb2⟩; replace hb2 := drewB hb2; obtain ⟨r7, o7, l7, c7, rfl, hz'⟩ := hz.shape; clear hz; have k7 := kv.mono hb2 kv.lt; have d0 := k7.c0; have d1 := k7.c1)
          | (go_at_call 48; refine (size_num _ _ (absI m / absI d) 1 _ (HV.out.mono hb2) hz'.out q0 (by omega) s1.out s2.out).mono ?_; rintro e w6 ⟨z, rfl, hz, hb3⟩; obtain ⟨r8, o8, l8, c8, rfl, hz2⟩ := hz.shape; clear hz; have k8 := k7.mono hb3 k7.lt; have e0' := k8.c0; have e1' := k8.c1; have e2' := k8.f0; have e3' := k8.f1; have hb5 : Below wc.heap.size wc w6 := hb2.trans (hb3.mono hb2.size)))
        all_goals
          have u7 := Vr.put k8 hz2.out
          have u8 := Vr.keep k8 (v8.mono hb5) (by omega) (.bool r8) (.slice o8 l8 c8)
          have hbl2 := keep2 (hbl.trans (hb5.mono hbl.size)) hX7 (.bool r8) (.slice o8 l8 c8)
          go_upto_region 5 with fail
          clear e0 e1 d0 d1 e0' e1' e2' e3' k8 k7 kv hz2 hz' HV hb5 hb2 hb3 hbl v8
          generalize (w6.setCell ⟨X7, 0, none⟩ (.bool r8)).setCell ⟨X7, 1, none⟩ (.slice o8 l8 c8) = w7 at *
          have j6 := k6.mono hbl2 k6.lt
          have i1 := j6.c1
          obtain ⟨xr, xo, xl, xc, kx, hx⟩ := u8
          have x0 := kx.c0
          have x1 := kx.c1
          have HX : Hid (Nm w7 (.agg #[.bool xr, .slice xo xl xc]) (absI m % absI d)) := hx
          have HYY : Hid (Nm w7 (.agg #[.bool false, .slice bo lb cb]) (absI d)) := hmono hY hbl2
          clear hx j6
          go_wp2_with (go_at_call 51; refine (less_num _ _ (absI d) (absI m % absI d) _ HYY.out HX.out q2 (Int.le_of_lt q3)).mono ?_; rintro e w8 ⟨z, rfl, hz, hb4⟩; obtain ⟨r9, o9, l9, c9, rfl, hz3⟩ := hz.shape; clear hz; have k9 := kx.mono hb4 kx.lt; have f0 := k9.c0; have f1 := k9.c1; have f2 := k9.f0; have f3 := k9.f1)
          go_meet
          case rel =>
            exact ⟨by rw [← E1.out]; exact Vr.keep k9 (u7.mono hb4) (by omega) _ _, by rw [← E2.out]; exact Vr.put k9 hz3.out, keep2 (hbl2.trans (hb4.mono hbl2.size)) (by omega) _ _⟩
    case rest =>
      clear v7 v8 hbl HT
      obtain ⟨v7, v8, hbl⟩ := hcut
      have hq := qS_nn q0
      obtain ⟨pr, po, pl, pc, kv, hv⟩ := v7
      obtain rfl : pr = false := by rw [hv.sign]; simp; omega
      obtain ⟨lr, lo, ll, lc, kl, hl⟩ := v8
      have c0 := (k0.mono hbl k0.lt).c0
      have c2 := (k6.mono hbl k6.lt).c0
      have e0 := kv.c0
      have e2 := kv.f0
      replace k1 := k1.mono hbl k1.lt
      replace k2 := k2.mono hbl k2.lt
      replace hG := hG.trans (hbl.mono hG.size)
      have sz := hb1'.size
      go_upto_region 7 with fail
      have HV : Hid (Nm (wc.setCell ⟨X7, 0, none⟩ (.bool (!(s == t)))) (.agg #[.bool false, .slice po pl pc]) (qS m d)) := hv.setBk kv _
      have HL : Hid (Nm (wc.setCell ⟨X7, 0, none⟩ (.bool (!(s == t)))) (.agg #[.bool lr, .slice lo ll lc]) (qR m d)) := hl.setBk kv _
      replace k1 := k1.other (p := ⟨X7, 0, none⟩) (by simp only []; omega) (.bool (!(s == t)))
      replace k2 := k2.other (p := ⟨X7, 0, none⟩) (by simp only []; omega) (.bool (!(s == t)))
      replace kl := kl.other (p := ⟨X7, 0, none⟩) (by simp only []; omega) (.bool (!(s == t)))
      replace kv := kv.set0 (.bool (!(s == t)))
      replace hG := hG.setCell (p := ⟨X7, 0, none⟩) (by simp only []; omega) (.bool (!(s == t)))
      clear c0 c2 e0 e2 hv hl hbl
      generalize wc.setCell ⟨X7, 0, none⟩ (.bool (!(s == t))) = W3 at *
      have E : Hid (qI m d = if (!(s == t)) = true then -(qS m d) else qS m d) := by unfold Hid qI; rw [← hS.out, ← hT.out]
      have e0 := kv.c0
      have e1 := kv.c1
      have f0 := kl.c0
      have f1 := kl.c1
      go_region_with (go_at_call 49; refine (trim_sign _ _ (qS m d) _ HV.out.drew hq).mono ?_; rintro e w9 ⟨z, rfl, hz, hg9⟩; obtain ⟨r9, o9, l9, c9, rfl, hz9⟩ := hz.shape; clear hz; have hb9 : Below W3.heap.size W3 w9 := drewB hg9.below; have j1 := k1.mono hb9 k1.lt; have j2 := k2.mono hb9 k2.lt; have g0 := j1.c0; have g1 := j1.c1; have g2 := j1.f0; have g3 := j1.f1; have i0 := j2.c0; have i1 := j2.c1; have i2 := j2.f0; have i3 := j2.f1; have jl := kl.mono hb9 kl.lt; have h0 := jl.c0; have h1 := jl.c1)
      all_goals
        go_wp2
        refine bodyPost_ret (v := .tuple #[.agg #[.bool r9, .slice o9 l9 c9], .agg #[.bool lr, .slice lo ll lc]]) (by simp [results, Try.results36, go_sem, g0, g1, i0, i1]) rfl ⟨_, _, rfl, ?_, ?_, ?_⟩
        · rw [E.out]
          exact (((hz9.out.setBk j1 _).setBk (j1.set0 _) _).setBk ((j2.other (by simp only []; omega) _).other (by simp only []; omega) _) _).setBk (((j2.other (by simp only []; omega) _).other (by simp only []; omega) _).set0 _) _
        · exact ((((HL.out.mono hb9).setBk j1 _).setBk (j1.set0 _) _).setBk ((j2.other (by simp only []; omega) _).other (by simp only []; omega) _) _).setBk (((j2.other (by simp only []; omega) _).other (by simp only []; omega) _).set0 _) _
        · have hbl := hG.trans (hb9.mono hG.size)
          exact (((hbl.setCell (by simp only []; omega) _).setCell (by simp only []; omega) _).setCell (by simp only []; omega) _).setCell (by simp only []; omega) _
end Go.Proofs.Ytgpkigofbncamaa
