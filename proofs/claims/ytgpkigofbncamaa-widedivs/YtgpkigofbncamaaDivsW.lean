/- The law WideDivs, walked: for any number of 128 bits and any divisor of 64 the call returns true, and the memory that was there is as it was. -/
import Derived.Test.YtgpkigofbncamaaRQuo
import Derived.Test.YtgpkigofbncamaaSqrt
import Derived.Test.YtgpkigofbncamaaRSqrt
import Derived.Test.YtgpkigofbncamaaAdds
namespace Go.Proofs.Ytgpkigofbncamaa
open Go.RowKit Go.Sort

/-- Six cells, and that nothing of W has turned. -/
abbrev S6 (a0 a1 a2 a3 a4 a5 : Addr) (x0 x1 x2 x3 x4 x5 : Value) (W : World) (w : World) : Prop :=
  w.cell? a0 = some x0 ∧ w.cell? a1 = some x1 ∧ w.cell? a2 = some x2 ∧ w.cell? a3 = some x3 ∧ w.cell? a4 = some x4 ∧ w.cell? a5 = some x5 ∧ Below W.heap.size W w
theorem S6.call {a0 a1 a2 a3 a4 a5 : Addr} {x0 x1 x2 x3 x4 x5 : Value} {W w w' : World} (h : S6 a0 a1 a2 a3 a4 a5 x0 x1 x2 x3 x4 x5 W w) (g : Below w.heap.size w w') : S6 a0 a1 a2 a3 a4 a5 x0 x1 x2 x3 x4 x5 W w' := by
  obtain ⟨h0, h1, h2, h3, h4, h5, hb⟩ := h
  exact ⟨below_cell h0 g, below_cell h1 g, below_cell h2 g, below_cell h3 g, below_cell h4 g, below_cell h5 g, hb.trans (g.mono hb.size)⟩

theorem qR_bd {m d : Int} (hm : inI m) (hd : inW d) (h0 : d ≠ 0) : 0 ≤ qR m d ∧ qR m d ≤ 18446744073709551615 := by
  obtain ⟨a0, a1⟩ := abs_in hm
  obtain ⟨d0, d1⟩ := abs_word hd.1 hd.2 h0
  obtain ⟨q0, q1, q2, q3⟩ := div_bd a0 d0
  unfold qR
  split <;> omega
theorem qI_bd {m d : Int} (hm : inI m) (hd : inW d) (h0 : d ≠ 0) : -680564733841876926926749214863536422912 ≤ qI m d ∧ qI m d ≤ 680564733841876926926749214863536422912 := by
  obtain ⟨a0, a1⟩ := abs_in hm
  obtain ⟨d0, d1⟩ := abs_word hd.1 hd.2 h0
  obtain ⟨q0, q1, q2, q3⟩ := div_bd a0 d0
  unfold qI qS
  split <;> split <;> omega

set_option maxRecDepth 20000 in
set_option maxHeartbeats 4000000 in
theorem divs_walk (m d : Int) (hm : inI m) (hd : inW d) (w : World) :
    Calls Try.prog 5 #[.agg #[.int .i64 (hiI m), .int .u64 (loI m)], .int .i64 d] w fun e w' => e = .returned (.bool true) ∧ Below w.heap.size w w' := by
  have HM : Hid (inI m) := hm
  have HD : Hid (inW d) := hd
  clear hm hd
  have hG := ((Gr.refl w).alloc (.cells #[.int .i64 (hiI m), .int .u64 (loI m)] 24)).below
  have k0 : Bx (w.alloc (.cells #[.int .i64 (hiI m), .int .u64 (loI m)] 24)) 24 w.heap.size (.int .i64 (hiI m)) (.int .u64 (loI m)) := Bx.new w 24 _ _
  by_cases h0 : d = 0
  · subst h0
    go_enter Try.func5, Try.ntmps5
    go_upto_region 1 with fail
    generalize w.alloc (.cells #[.int .i64 (hiI m), .int .u64 (loI m)] 24) = W at *
    have x0 := k0.c0
    have x1 := k0.c1
    go_upto_region 8 with (first
      | (go_at_call 8; refine (of_any (hiI m) (loI m) _).mono ?_; rintro e w1 ⟨rfl, g1⟩)
      | (go_at_call 35; refine (wquo_nought m _).mono ?_; rintro e w2 ⟨rfl, g2⟩))
    have g3 := (g1.trans g2).alloc (.cells #[.int .i64 0, .int .u64 0] 25)
    replace k0 := k0.gr g3
    replace hG := hG.trans (g3.below.mono hG.size)
    clear x0 x1 g1 g2 g3
    generalize w2.alloc (.cells #[.int .i64 0, .int .u64 0] 25) = W5 at *
    have x0 := k0.c0
    have x1 := k0.c1
    by_cases hs : m < 0
    · have hs' : hiI m < 0 := by have := HM.out; unfold inI hiI at *; omega
      go_wp2_with (first
        | (go_at_call 8; refine (of_any (hiI m) (loI m) _).mono ?_; rintro e w6 ⟨rfl, g6⟩)
        | (go_at_call 37; refine (wsqrt_neg m HM.out hs _).mono ?_; rintro e w7 ⟨rfl, g7⟩; have y0 := (k0.gr (g6.trans g7)).c0))
      go_ret
      exact ⟨rfl, hG.trans ((g6.trans g7).below.mono hG.size)⟩
    · have hs' : 0 ≤ hiI m := by have := HM.out; unfold inI hiI at *; omega
      go_upto_region 9 with (first
        | (go_at_call 8; refine (of_any (hiI m) (loI m) _).mono ?_; rintro e w6 ⟨rfl, g6⟩)
        | (go_at_call 37; refine (wsqrt_any m HM.out (by omega) _).mono ?_; rintro e w7 ⟨r, hr, r0, r1, rfl, g7⟩))
      have HS : Hid (isSq m r) := hr
      replace k0 := k0.gr (g6.trans g7)
      replace hG := hG.trans ((g6.trans g7).below.mono hG.size)
      clear x0 x1 g6 g7 hr
      have x0 := k0.c0
      have x1 := k0.c1
      go_wp2_with (first
        | (go_at_call 9; refine (num_in m HM.out _).mono ?_; rintro e w8 ⟨z, rfl, hz, hb8⟩; obtain ⟨r8, o8, l8, c8, rfl, hz8⟩ := hz.shape; clear hz)
        | (go_at_call 38; refine (rsqrt_num _ m r _ hz8.out HM.out (by omega) HS.out).mono ?_; rintro e w9 ⟨rfl, hb9⟩))
      go_ret
      exact ⟨rfl, (hG.trans (hb8.mono hG.size)).trans (hb9.mono (Nat.le_trans hG.size hb8.size))⟩
  · have dn : (d == 0) = false := by simp; omega
    obtain ⟨u0, u1⟩ := qR_bd HM.out HD.out h0
    have T := qI_bd HM.out HD.out h0
    have T1 : Hid (-p2 6000 < qI m d ∧ qI m d < p2 6000) := small_in T.1 T.2
    clear T
    go_enter Try.func5, Try.ntmps5
    go_upto_region 1 with fail
    generalize w.alloc (.cells #[.int .i64 (hiI m), .int .u64 (loI m)] 24) = W at *
    have x0 := k0.c0
    have x1 := k0.c1
    go_upto_region 5 with (first
      | (go_at_call 8; refine (of_any (hiI m) (loI m) _).mono ?_; rintro e w1 ⟨rfl, g1⟩)
      | (go_at_call 35; refine (wquo_any m d HM.out HD.out.1 HD.out.2 h0 _).mono ?_; rintro e w2 ⟨rfl, g2⟩))
    have g3 := (g1.trans g2).alloc (.cells #[.int .i64 (hiI (qI m d)), .int .u64 (loI (qI m d))] 25)
    have k5 := Bx.new w2 25 (.int .i64 (hiI (qI m d))) (.int .u64 (loI (qI m d)))
    replace k0 := k0.gr g3
    replace hG := hG.trans (g3.below.mono hG.size)
    clear x0 x1 g1 g2 g3
    generalize w2.alloc (.cells #[.int .i64 (hiI (qI m d)), .int .u64 (loI (qI m d))] 25) = W1 at *
    generalize w2.heap.size = X5 at *
    have x0 := k0.c0
    have x1 := k0.c1
    go_upto_region 6 with (first
      | (go_at_call 9; refine (num_in m HM.out _).mono ?_; rintro e w3 ⟨z, rfl, hz, hb3⟩; obtain ⟨r3, o3, l3, c3, rfl, hz3⟩ := hz.shape; clear hz)
      | (go_at_call 36; refine (rquo_num _ m d _ hz3.out HM.out HD.out h0).mono ?_; rintro e w4 ⟨z1, z2, rfl, hq, hl, hb4⟩; obtain ⟨r4, o4, l4, c4, rfl, hq4⟩ := hq.shape; obtain ⟨r5, o5, l5, c5, rfl, hl5⟩ := hl.shape; clear hq hl))
    have hb34 := hb3.trans (hb4.mono hb3.size)
    obtain ⟨v8, v9, hbl⟩ := finA hq4.out hl5.out hb34 hb34.size
    have k8 : Bk ((w4.alloc (.cells #[.bool r4, .slice o4 l4 c4] 29)).alloc (.cells #[.bool r5, .slice o5 l5 c5] 29)) w4.heap.size (.bool r4) (.slice o4 l4 c4) := (Bk.new w4 _ _).alloc _
    have k9 : Bk ((w4.alloc (.cells #[.bool r4, .slice o4 l4 c4] 29)).alloc (.cells #[.bool r5, .slice o5 l5 c5] 29)) (w4.heap.size + 1) (.bool r5) (.slice o5 l5 c5) := Bk.new' w4 _ _ _
    have N8 : Hid (Nm ((w4.alloc (.cells #[.bool r4, .slice o4 l4 c4] 29)).alloc (.cells #[.bool r5, .slice o5 l5 c5] 29)) (.agg #[.bool r4, .slice o4 l4 c4]) (qI m d)) := hmono hq4 (below2 _ _ _)
    have N9 : Hid (Nm ((w4.alloc (.cells #[.bool r4, .slice o4 l4 c4] 29)).alloc (.cells #[.bool r5, .slice o5 l5 c5] 29)) (.agg #[.bool r5, .slice o5 l5 c5]) (qR m d)) := hmono hl5 (below2 _ _ _)
    replace k0 := k0.mono hbl k0.lt
    replace k5 := k5.mono hbl k5.lt
    replace hG := hG.trans (hbl.mono hG.size)
    clear x0 x1 hb3 hb4 hb34 v8 v9 hq4 hl5 hz3 hbl
    generalize (w4.alloc (.cells #[.bool r4, .slice o4 l4 c4] 29)).alloc (.cells #[.bool r5, .slice o5 l5 c5] 29) = W4 at *
    generalize w4.heap.size = X8 at *
    have x0 := k5.c0
    have x1 := k5.c1
    have y0 := k8.c0
    have y1 := k8.c1
    have z0 := k9.c0
    have z1 := k9.c1
    have hc : (cmpI (qR m d) (qR m d) != 0) = false := by rw [(cmpI_zero _ _).2 rfl]; rfl
    have hS0 : Hid (S6 ⟨X5, 0, none⟩ ⟨X5, 1, none⟩ ⟨X8, 0, none⟩ ⟨X8, 1, none⟩ ⟨X8 + 1, 0, none⟩ ⟨X8 + 1, 1, none⟩ (.int .i64 (hiI (qI m d))) (.int .u64 (loI (qI m d))) (.bool r4) (.slice o4 l4 c4) (.bool r5) (.slice o5 l5 c5) W4 W4.drew) := ⟨x0, x1, y0, y1, z0, z1, (Below.refl _ _).drew⟩
    go_region_held3 (S6 ⟨X5, 0, none⟩ ⟨X5, 1, none⟩ ⟨X8, 0, none⟩ ⟨X8, 1, none⟩ ⟨X8 + 1, 0, none⟩ ⟨X8 + 1, 1, none⟩ (.int .i64 (hiI (qI m d))) (.int .u64 (loI (qI m d))) (.bool r4) (.slice o4 l4 c4) (.bool r5) (.slice o5 l5 c5) W4)
      (first | with_reducible exact hS0.out | exact S6.call (by assumption) (by assumption))
      (first
        | (go_at_call 10; refine (is_any _ (qI m d) _ (N8.out.mono (by assumption : S6 ⟨X5, 0, none⟩ ⟨X5, 1, none⟩ ⟨X8, 0, none⟩ ⟨X8, 1, none⟩ ⟨X8 + 1, 0, none⟩ ⟨X8 + 1, 1, none⟩ (.int .i64 (hiI (qI m d))) (.int .u64 (loI (qI m d))) (.bool r4) (.slice o4 l4 c4) (.bool r5) (.slice o5 l5 c5) W4 _).2.2.2.2.2.2) T1.out.1 T1.out.2).mono ?_; rintro e w5 ⟨rfl, hb5⟩)
        | (go_at_call 34; refine (uns_num (qR m d) _ u0 u1).mono ?_; rintro e w6 ⟨z, rfl, hz, hb6⟩; obtain ⟨r6, o6, l6, c6, rfl, hz6⟩ := hz.shape; clear hz)
        | (go_at_call 22; refine (cmp_num _ _ (qR m d) (qR m d) _ hz6.out (N9.out.mono (by assumption : S6 ⟨X5, 0, none⟩ ⟨X5, 1, none⟩ ⟨X8, 0, none⟩ ⟨X8, 1, none⟩ ⟨X8 + 1, 0, none⟩ ⟨X8 + 1, 1, none⟩ (.int .i64 (hiI (qI m d))) (.int .u64 (loI (qI m d))) (.bool r4) (.slice o4 l4 c4) (.bool r5) (.slice o5 l5 c5) W4 _).2.2.2.2.2.2)).mono ?_; rintro e W5 ⟨rfl, hg7⟩; have hb7 := hg7.below))
    have hbW : Below W4.heap.size W4 W5 := (by assumption : S6 ⟨X5, 0, none⟩ ⟨X5, 1, none⟩ ⟨X8, 0, none⟩ ⟨X8, 1, none⟩ ⟨X8 + 1, 0, none⟩ ⟨X8 + 1, 1, none⟩ (.int .i64 (hiI (qI m d))) (.int .u64 (loI (qI m d))) (.bool r4) (.slice o4 l4 c4) (.bool r5) (.slice o5 l5 c5) W4 W5).2.2.2.2.2.2
    replace k0 := k0.mono hbW k0.lt
    replace hG := hG.trans (hbW.mono hG.size)
    clear hS0 hbW x0 x1 y0 y1 z0 z1 hc T1 N8 N9
    go_upto_region 8 with fail
    have x0 := k0.c0
    have x1 := k0.c1
    by_cases hs : m < 0
    · have hs' : hiI m < 0 := by have := HM.out; unfold inI hiI at *; omega
      go_wp2_with (first
        | (go_at_call 8; refine (of_any (hiI m) (loI m) _).mono ?_; rintro e w6 ⟨rfl, g6⟩)
        | (go_at_call 37; refine (wsqrt_neg m HM.out hs _).mono ?_; rintro e w7 ⟨rfl, g7⟩; have y0 := (k0.gr (g6.trans g7)).c0))
      go_ret
      exact ⟨rfl, hG.trans ((g6.trans g7).below.mono hG.size)⟩
    · have hs' : 0 ≤ hiI m := by have := HM.out; unfold inI hiI at *; omega
      go_upto_region 9 with (first
        | (go_at_call 8; refine (of_any (hiI m) (loI m) _).mono ?_; rintro e w6 ⟨rfl, g6⟩)
        | (go_at_call 37; refine (wsqrt_any m HM.out (by omega) _).mono ?_; rintro e w7 ⟨r, hr, r0, r1, rfl, g7⟩))
      have HS : Hid (isSq m r) := hr
      replace k0 := k0.gr (g6.trans g7)
      replace hG := hG.trans ((g6.trans g7).below.mono hG.size)
      clear x0 x1 g6 g7 hr
      have x0 := k0.c0
      have x1 := k0.c1
      go_wp2_with (first
        | (go_at_call 9; refine (num_in m HM.out _).mono ?_; rintro e w8 ⟨z, rfl, hz, hb8⟩; obtain ⟨r8, o8, l8, c8, rfl, hz8⟩ := hz.shape; clear hz)
        | (go_at_call 38; refine (rsqrt_num _ m r _ hz8.out HM.out (by omega) HS.out).mono ?_; rintro e w9 ⟨rfl, hb9⟩))
      go_ret
      exact ⟨rfl, (hG.trans (hb8.mono hG.size)).trans (hb9.mono (Nat.le_trans hG.size hb8.size))⟩
end Go.Proofs.Ytgpkigofbncamaa
