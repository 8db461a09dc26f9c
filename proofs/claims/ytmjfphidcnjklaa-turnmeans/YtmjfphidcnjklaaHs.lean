/- The law TurnHeads, walked. -/
import Derived.Test.YtmjfphidcnjklaaHr
import Derived.Test.YtmjfphidcnjklaaPl2
import Derived.Test.YtmjfphidcnjklaaG3
import Derived.Test.YtmjfphidcnjklaaM1
set_option linter.unusedSimpArgs false
namespace Go.Proofs.Ytmjfphidcnjklaa
open Go.RowKit Go.Sort Ieee

set_option maxRecDepth 20000 in
set_option maxHeartbeats 800000 in
theorem length_is {m n : Int} {x y s L : Nat} (hx : floatBits .mul .f64 (fi m) (fi m) = some x) (hy : floatBits .mul .f64 (fi n) (fi n) = some y) (hs : floatBits .add .f64 x y = some s) (hL : FloatKind.f64.format.sqrt s = some L) (w : World) :
    Calls Try.prog 64 #[.int .i64 m, .int .i64 n] w fun e w' => e = .returned (.float .f64 L) ∧ w' = w := by
  have e1 : ∀ w, (binOp .mul 31 (.float .f64 (floatOfInt .f64 m)) (.float .f64 (floatOfInt .f64 m))).run Try.prog w = .ok (.float .f64 x) w := fun w => run_float_arith w .mul 31 .f64 _ _ _ hx
  have e2 : ∀ w, (binOp .mul 31 (.float .f64 (floatOfInt .f64 n)) (.float .f64 (floatOfInt .f64 n))).run Try.prog w = .ok (.float .f64 y) w := fun w => run_float_arith w .mul 31 .f64 _ _ _ hy
  have e3 : ∀ w, (binOp .add 31 (.float .f64 x) (.float .f64 y)).run Try.prog w = .ok (.float .f64 s) w := fun w => run_float_arith w .add 31 .f64 _ _ _ hs
  have H := hid' (fun w => sqrt_any hL w)
  clear hx hy hs hL
  go_enter Try.func64, Try.ntmps64
  go_wp2_with (go_at_call 66; refine (H.out _).mono ?_; rintro e w' ⟨rfl, rfl⟩)
  go_ret
  exact ⟨rfl, rfl⟩
theorem V.num {r x : Nat} (h : V r x) (n : ¬ isN x) : r = x := by
  rcases h.2.2 with e | ⟨_, h2⟩
  · exact e
  · exact absurd h2 n
set_option maxRecDepth 20000 in
set_option maxHeartbeats 3200000 in
theorem heading_is {px py qx qy : Int} (h1 : in32 px) (h2 : in32 py) (h3 : in32 qx) (h4 : in32 qy) (hne : ((px == qx) = true ∧ (py == qy) = false) ∨ (px == qx) = false)
    {x y s L p q : Nat} (hx : floatBits .mul .f64 (fi (qx - px)) (fi (qx - px)) = some x) (hy : floatBits .mul .f64 (fi (qy - py)) (fi (qy - py)) = some y) (hs : floatBits .add .f64 x y = some s) (hL : FloatKind.f64.format.sqrt s = some L)
    (hp : floatBits .quo .f64 (fi (qx - px)) L = some p) (hq : floatBits .quo .f64 (fi (qy - py)) L = some q) (np : ¬ isN p) (nq : ¬ isN q) (lL : L < 18446744073709551616) (w : World) :
    Calls Try.prog 31 #[ptV px py, ptV qx qy] w fun e w' => e = .returned (.complex .f64 p q) ∧ Gr w w' := by
  have VL : V L L := V.refl lL
  have LL := fun w => hid' (length_is hx hy hs hL w)
  have WY := fun w => hid' (way_any h1 h2 h3 h4 w)
  have DV := fun w => hid' (divided_any (foi_V (qx - px)) (foi_V (qy - py)) VL w)
  have ep : fo .quo (fi (qx - px)) L = p := by unfold fo; rw [hp]; rfl
  have eq' : fo .quo (fi (qy - py)) L = q := by unfold fo; rw [hq]; rfl
  clear h1 h2 h3 h4 hx hy hs hL hp hq
  rcases hne with ⟨b1, b2⟩ | b1
  all_goals
    go_enter Try.func31, Try.ntmps31
    go_wp2_with (first
      | (go_at_call 58; refine (WY _).out.mono ?_; rintro e w1 ⟨rfl, g1⟩)
      | (go_at_call 57; refine (number_any _ _ _).mono ?_; rintro e w2 ⟨rfl, rfl⟩)
      | (go_at_call 64; refine (LL _).out.mono ?_; rintro e w3 ⟨rfl, rfl⟩)
      | (go_at_call 63; refine (DV _).out.mono ?_; rintro e w4 ⟨r, s, rfl, k1, k2, g4⟩))
    go_ret
    rw [show (fo .quo (floatOfInt .f64 (qx - px)) L) = p from ep] at k1
    rw [show (fo .quo (floatOfInt .f64 (qy - py)) L) = q from eq'] at k2
    rw [k1.num np, k2.num nq]
    exact ⟨rfl, ((((Gr.refl _).alloc _).alloc _).trans g1).trans g4⟩


set_option maxRecDepth 20000 in
set_option maxHeartbeats 6400000 in
theorem heads_no (px py : Int) (a b : Nat) (ha : a < 18446744073709551616) (hb : b < 18446744073709551616) (w : World) :
    Calls Try.prog 8 #[ptV px py, ptV px py, .agg #[.int .u64 (a : Int), .int .u64 (b : Int)]] w fun e w' => e = .returned (.bool true) ∧ Gr w w' := by
  obtain ⟨kX, kY, kZ, g⟩ := three_new w 57 57 25 #[.int .i32 px, .int .i32 py] #[.int .i32 px, .int .i32 py] #[.int .u64 (a : Int), .int .u64 (b : Int)]
  have S1 := fun w => hid' (sector_any ha hb w)
  have S2 := fun w => hid' (sector_any (ngF_lt hb) ha w)
  have rg := secF_range a b
  have tn := secF_turn (x := a) hb
  have lv := fun w => hid' (lives_any w)
  clear ha hb
  generalize secF a b = s at *
  generalize secF (ngF b) a = t at *
  have un := un_neg b
  have eN := eq_nil
  have cX := hid' kX.two_gr
  have cY := hid' kY.two_gr
  have Tn : Hid (s < 0 ∧ t < 0 ∨ 0 ≤ s ∧ t = (s + 2) % 8) := tn
  clear tn kX kY
  go_enter Try.func8, Try.ntmps8
  go_upto_region 4 with (first
    | (go_at_call 10; refine (of_any _ _ _).mono ?_; rintro e w1 ⟨rfl, rfl⟩)
    | (go_at_call_of 24 (Value.complex FloatKind.f64 a b); refine (S1 _).out.mono ?_; rintro e w2 ⟨rfl, rfl⟩)
    | (go_at_call 24; refine (S2 _).out.mono ?_; rintro e w3 ⟨rfl, rfl⟩))
  have C : Hid ((s = -1 ∧ t < 0) ∨ (¬ s < -1 ∧ ¬ 7 < s ∧ ¬ s < 0 ∧ ¬ t < 0 ∧ 0 ≤ s ∧ IntKind.i8.wrap (s + 2) = s + 2 ∧ Int.tmod (s + 2) 8 = t)) := by
    rcases Tn.out with ⟨h1, h2⟩ | ⟨h1, h2⟩
    · exact .inl ⟨by omega, h2⟩
    · exact .inr ⟨by omega, by omega, by omega, by omega, h1, by simp only [IntKind.wrap, IntKind.bits, IntKind.signed]; simp; omega, by rw [h2, Int.tmod_eq_emod_of_nonneg (by omega)]⟩
  clear Tn rg
  rcases C.out with ⟨rfl, h2⟩ | ⟨a1, a2, a3, a4, a5, a6, a7⟩
  all_goals
    clear C
    go_wp2_with (first
      | (go_at_call 31; refine (heading_no _).mono ?_; rintro e w5 ⟨rfl, g5⟩; obtain ⟨x0, x1⟩ := cX.out; obtain ⟨y0, y1⟩ := cY.out; replace x0 := x0 _ g5; replace x1 := x1 _ g5; replace y0 := y0 _ g5; replace y1 := y1 _ g5)
      | (go_at_call 26; refine (lv _).out.mono ?_; rintro e w6 ⟨rfl, g6⟩))
    go_ret
    exact ⟨rfl, (g.trans g5).trans g6⟩

set_option maxRecDepth 20000 in
set_option maxHeartbeats 6400000 in
theorem heads_yes (px py qx qy : Int) (h1 : in32 px) (h2 : in32 py) (h3 : in32 qx) (h4 : in32 qy) (hne : ((px == qx) = true ∧ (py == qy) = false) ∨ (px == qx) = false) (a b : Nat) (ha : a < 18446744073709551616) (hb : b < 18446744073709551616) (w : World) :
    Calls Try.prog 8 #[ptV px py, ptV qx qy, .agg #[.int .u64 (a : Int), .int .u64 (b : Int)]] w fun e w' => e = .returned (.bool true) ∧ Gr w w' := by
  obtain ⟨kX, kY, kZ, g⟩ := three_new w 57 57 25 #[.int .i32 px, .int .i32 py] #[.int .i32 qx, .int .i32 qy] #[.int .u64 (a : Int), .int .u64 (b : Int)]
  obtain ⟨x, y, s', L, p, q, u, v, gg, c, hx, hy, hs, hL, hp, hq, hu, hv, hg, hc, ⟨lp, np⟩, ⟨lq, nq⟩, lL, sec, lc, leq⟩ := heads_plain (m := qx - px) (n := qy - py) (by unfold in32 at *; omega) (by unfold in32 at *; omega) (by
    rintro ⟨k1, k2⟩
    rcases hne with ⟨_, k⟩ | k
    · exact (beq_eq_false_iff_ne.1 k) (by omega)
    · exact (beq_eq_false_iff_ne.1 k) (by omega))
  have HD := fun w => hid' (heading_is h1 h2 h3 h4 hne hx hy hs hL hp hq np nq lL w)
  have S1 := fun w => hid' (sector_any ha hb w)
  have S2 := fun w => hid' (sector_any (ngF_lt hb) ha w)
  have S3 := fun w => hid' (sector_any lp lq w)
  have S4 := fun w => hid' (sector_any (foi_V (qx - px)).1 (foi_V (qy - py)).1 w)
  have AB := fun w => hid' (abs_any c w lc)
  rw [sec] at S3
  have rg := secF_range a b
  have tn := secF_turn (x := a) hb
  have lv := fun w => hid' (lives_any w)
  have f1 : ∀ w, (binOp .mul 31 (.float .f64 p) (.float .f64 p)).run Try.prog w = .ok (.float .f64 u) w := fun w => run_float_arith w .mul 31 .f64 _ _ _ hu
  have f2 : ∀ w, (binOp .mul 31 (.float .f64 q) (.float .f64 q)).run Try.prog w = .ok (.float .f64 v) w := fun w => run_float_arith w .mul 31 .f64 _ _ _ hv
  have f3 : ∀ w, (binOp .add 31 (.float .f64 u) (.float .f64 v)).run Try.prog w = .ok (.float .f64 gg) w := fun w => run_float_arith w .add 31 .f64 _ _ _ hg
  have f4 : ∀ w, (binOp .sub 31 (.float .f64 gg) (.float .f64 4607182418800017408)).run Try.prog w = .ok (.float .f64 c) w := fun w => run_float_arith w .sub 31 .f64 _ _ _ hc
  have e1 := wrap64_in h1
  have e2 := wrap64_in h2
  have e3 := wrap64_in h3
  have e4 := wrap64_in h4
  have e5 := wrap64_dif h3 h1
  have e6 := wrap64_dif h4 h2
  clear ha hb hx hy hs hL hp hq hu hv hg hc np nq lL lp lq sec lc h1 h2 h3 h4
  generalize hsd : secF (fi' (qx - px)) (fi' (qy - py)) = sd at *
  clear hsd
  generalize secF a b = s at *
  generalize secF (ngF b) a = t at *
  have un := un_neg b
  have eN := eq_nil
  have cX := hid' kX.two_gr
  have cY := hid' kY.two_gr
  have Tn : Hid (s < 0 ∧ t < 0 ∨ 0 ≤ s ∧ t = (s + 2) % 8) := tn
  clear tn kX kY
  go_enter Try.func8, Try.ntmps8
  go_upto_region 4 with (first
    | (go_at_call 10; refine (of_any _ _ _).mono ?_; rintro e w1 ⟨rfl, rfl⟩)
    | (go_at_call_of 24 (Value.complex FloatKind.f64 a b); refine (S1 _).out.mono ?_; rintro e w2 ⟨rfl, rfl⟩)
    | (go_at_call 24; refine (S2 _).out.mono ?_; rintro e w3 ⟨rfl, rfl⟩))
  have C : Hid ((s = -1 ∧ t < 0) ∨ (¬ s < -1 ∧ ¬ 7 < s ∧ ¬ s < 0 ∧ ¬ t < 0 ∧ 0 ≤ s ∧ IntKind.i8.wrap (s + 2) = s + 2 ∧ Int.tmod (s + 2) 8 = t)) := by
    rcases Tn.out with ⟨h1, h2⟩ | ⟨h1, h2⟩
    · exact .inl ⟨by omega, h2⟩
    · exact .inr ⟨by omega, by omega, by omega, by omega, h1, by simp only [IntKind.wrap, IntKind.bits, IntKind.signed]; simp; omega, by rw [h2, Int.tmod_eq_emod_of_nonneg (by omega)]⟩
  clear Tn rg
  rcases C.out with ⟨rfl, h2⟩ | ⟨a1, a2, a3, a4, a5, a6, a7⟩ <;> rcases hne with ⟨b1, b2⟩ | b1
  all_goals
    clear C
    go_wp2_with (first
      | (go_at_call 31; refine (HD _).out.mono ?_; rintro e w5 ⟨rfl, g5⟩; obtain ⟨x0, x1⟩ := cX.out; obtain ⟨y0, y1⟩ := cY.out; replace x0 := x0 _ g5; replace x1 := x1 _ g5; replace y0 := y0 _ g5; replace y1 := y1 _ g5)
      | (go_at_call_of 24 (Value.complex FloatKind.f64 p q); refine (S3 _).out.mono ?_; rintro e w7 ⟨rfl, rfl⟩)
      | (go_at_call 24; refine (S4 _).out.mono ?_; rintro e w8 ⟨rfl, rfl⟩)
      | (go_at_call 38; refine (AB _).out.mono ?_; rintro e w9 ⟨rfl, rfl⟩)
      | (go_at_call 26; refine (lv _).out.mono ?_; rintro e w6 ⟨rfl, g6⟩))
    go_ret
    exact ⟨rfl, (g.trans g5).trans g6⟩
end Go.Proofs.Ytmjfphidcnjklaa
