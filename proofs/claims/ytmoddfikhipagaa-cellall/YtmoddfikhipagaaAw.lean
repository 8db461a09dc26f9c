/- CellAll: the law's walk. -/
import Derived.Test.YtmoddfikhipagaaWs
import Derived.Test.YtmoddfikhipagaaCvW
set_option linter.unusedSimpArgs false
set_option linter.unusedVariables false
namespace Go.Proofs.Ytmoddfikhipagaa
open Go.RowKit Go.Sort Go.Shelf
attribute [local go_sem] Oper.semAt_some wide_fn
attribute [local simp] wide_fn

set_option maxRecDepth 20000 in
def InvA (W : World) (b5 b6 b8 : Nat) (px py qx qy nx ny gx gy s : Int) (u0 u2 u3 u4 u7 u9 u10 u11 u12 u13 u15 u16 u17 u18 u19 u20 u21 u22 u23 u24 u25 u26 u27 u28 u29 u30 u31 u32 u33 u34 u35 u36 u37 u38 u39 u40 u41 u42 u43 u44 u45 u46 u47 u48 u49 u50 u51 u52 u53 u54 u55 u56 u57 u58 u59 u60 u61 u62 u63 u64 u65 u66 u67 u68 u69 u70 u71 u72 u73 u74 u75 u76 u77 u78 u102 u103 u104 u105 u106 u107 u108 u109 u110 u111 u112 u113 u114 u115 u116 u117 u118 u119 u120 u121 u122 u123 u124 u125 u126 u127 u128 u129 u130 u131 u132 u133 u134 u135 u136 u137 u138 u139 u140 : Value) (d : Nat → Prop) (a : Act) (w : World) : Prop :=
  ∃ u14 u79 u80 u81 u82 u83 u84 u85 u86 u87 u88 u89 u90 u91 u92 u93 u94 u95 u96 u97 u98 u99 u100 u101 : Value, a = { tmps := (u0 :: .int .i64 s :: u2 :: u3 :: u4 :: .pointer (some ⟨b5, 0, none⟩) :: .pointer (some ⟨b6, 0, none⟩) :: u7 :: .pointer (some ⟨b8, 0, none⟩) :: u9 :: u10 :: u11 :: u12 :: u13 :: u14 :: u15 :: u16 :: u17 :: u18 :: u19 :: u20 :: u21 :: u22 :: u23 :: u24 :: u25 :: u26 :: u27 :: u28 :: u29 :: u30 :: u31 :: u32 :: u33 :: u34 :: u35 :: u36 :: u37 :: u38 :: u39 :: u40 :: u41 :: u42 :: u43 :: u44 :: u45 :: u46 :: u47 :: u48 :: u49 :: u50 :: u51 :: u52 :: u53 :: u54 :: u55 :: u56 :: u57 :: u58 :: u59 :: u60 :: u61 :: u62 :: u63 :: u64 :: u65 :: u66 :: u67 :: u68 :: u69 :: u70 :: u71 :: u72 :: u73 :: u74 :: u75 :: u76 :: u77 :: u78 :: u79 :: u80 :: u81 :: u82 :: u83 :: u84 :: u85 :: u86 :: u87 :: u88 :: u89 :: u90 :: u91 :: u92 :: u93 :: u94 :: u95 :: u96 :: u97 :: u98 :: u99 :: u100 :: u101 :: u102 :: u103 :: u104 :: u105 :: u106 :: u107 :: u108 :: u109 :: u110 :: u111 :: u112 :: u113 :: u114 :: u115 :: u116 :: u117 :: u118 :: u119 :: u120 :: u121 :: u122 :: u123 :: u124 :: u125 :: u126 :: u127 :: u128 :: u129 :: u130 :: u131 :: u132 :: u133 :: u134 :: u135 :: u136 :: u137 :: u138 :: u139 :: u140 :: []).toArray, defers := [] } ∧ Gr W w
  ∧ Hid (d 0 → u79 = .pointer (some ⟨b5, 0, none⟩))
  ∧ Hid (d 1 → u80 = .int .i32 (px))
  ∧ Hid (d 2 → u81 = .pointer (some ⟨b6, 0, none⟩))
  ∧ Hid (d 3 → u82 = .int .i32 (qx))
  ∧ Hid (d 4 → u83 = .int .i32 (nx))
  ∧ Hid (d 5 → u84 = .pointer (some ⟨b5, 1, none⟩))
  ∧ Hid (d 6 → u85 = .int .i32 (py))
  ∧ Hid (d 7 → u86 = .pointer (some ⟨b6, 1, none⟩))
  ∧ Hid (d 8 → u87 = .int .i32 (qy))
  ∧ Hid (d 9 → u88 = .int .i32 (ny))
  ∧ Hid (d 10 → u89 = pt nx ny)
  ∧ Hid (d 11 → u90 = .pointer (some ⟨b5, 0, none⟩))
  ∧ Hid (d 12 → u91 = .int .i32 (px))
  ∧ Hid (d 13 → u92 = .pointer (some ⟨b6, 0, none⟩))
  ∧ Hid (d 14 → u93 = .int .i32 (qx))
  ∧ Hid (d 15 → u94 = .int .i32 (gx))
  ∧ Hid (d 16 → u95 = .pointer (some ⟨b5, 1, none⟩))
  ∧ Hid (d 17 → u96 = .int .i32 (py))
  ∧ Hid (d 18 → u97 = .pointer (some ⟨b6, 1, none⟩))
  ∧ Hid (d 19 → u98 = .int .i32 (qy))
  ∧ Hid (d 20 → u99 = .int .i32 (gy))
  ∧ Hid (d 21 → u100 = pt gx gy)
  ∧ Hid (d 22 → u101 = bx nx ny gx gy)
  ∧ Hid (d 23 → ∃ (B : Nat) (x0 x1 x2 x3 : Value), u14 = .pointer (some ⟨B, 0, none⟩) ∧ W.heap.size ≤ B ∧ Bk w B 25 [x0, x1, x2, x3] ∧ (d 24 → x0 = Value.int .i32 nx ∧ x1 = Value.int .i32 ny ∧ x2 = Value.int .i32 gx ∧ x3 = Value.int .i32 gy))

set_option maxRecDepth 20000 in
set_option maxHeartbeats 40000000 in
theorem all_bad (px py qx qy a b c e cx cy s : Int) (b0 b1 b2 : Bool) (hno : (b0 && b1 && b2) = false) (w : World)
    (F1 : Hid (∀ w, Calls Try.prog 24 #[.int .i64 s] w fun e w' => e = .returned (.bool b0) ∧ w' = w))
    (F2 : Hid (∀ w, Calls Try.prog 25 #[pt px py] w fun e w' => e = .returned (.bool b1) ∧ Gr w w'))
    (F3 : Hid (∀ w, Calls Try.prog 25 #[pt qx qy] w fun e w' => e = .returned (.bool b2) ∧ Gr w w')) :
    Calls Try.prog 6 #[.agg #[.int .i32 px, .int .i32 py, .int .i32 qx, .int .i32 qy, .int .i32 a, .int .i32 b, .int .i32 c, .int .i32 e, .int .i32 cx, .int .i32 cy], .int .i64 s] w fun e w' => e = .returned (.bool true) ∧ Below w.heap.size w w' := by
  have LV := hid0 lives_any
  have b2' := Bk.new w 28 [.int .i32 px, .int .i32 py, .int .i32 qx, .int .i32 qy, .int .i32 a, .int .i32 b, .int .i32 c, .int .i32 e, .int .i32 cx, .int .i32 cy]
  have g0 : Gr w (w.alloc (.cells #[.int .i32 px, .int .i32 py, .int .i32 qx, .int .i32 qy, .int .i32 a, .int .i32 b, .int .i32 c, .int .i32 e, .int .i32 cx, .int .i32 cy] 28)) := (Gr.refl _).alloc _
  go_enter Try.func6, Try.ntmps6
  go_upto_region 1 with fail
  generalize w.alloc (.cells #[.int .i32 px, .int .i32 py, .int .i32 qx, .int .i32 qy, .int .i32 a, .int .i32 b, .int .i32 c, .int .i32 e, .int .i32 cx, .int .i32 cy] 28) = W1 at *
  have a0 := b2'.at 0
  have a1 := b2'.at 1
  go_upto_region 2 with fail
  have k5 := Bk.new W1 23 [.int .i32 px, .int .i32 py]
  replace g0 := g0.alloc (.cells #[.int .i32 px, .int .i32 py] 23)
  replace b2' := b2'.alloc (.cells #[.int .i32 px, .int .i32 py] 23)
  clear a0 a1
  obtain ⟨B5, h5⟩ : ∃ B5, B5 = W1.heap.size := ⟨_, rfl⟩
  rw [← h5] at k5 ⊢
  clear h5
  generalize W1.alloc (.cells #[.int .i32 px, .int .i32 py] 23) = W2 at *
  have a2 := b2'.at 2
  have a3 := b2'.at 3
  go_upto_region 3 with fail
  have k6 := Bk.new W2 23 [.int .i32 qx, .int .i32 qy]
  replace g0 := g0.alloc (.cells #[.int .i32 qx, .int .i32 qy] 23)
  replace b2' := b2'.alloc (.cells #[.int .i32 qx, .int .i32 qy] 23)
  replace k5 := k5.alloc (.cells #[.int .i32 qx, .int .i32 qy] 23)
  clear a2 a3
  obtain ⟨B6, h6⟩ : ∃ B6, B6 = W2.heap.size := ⟨_, rfl⟩
  rw [← h6] at k6 ⊢
  clear h6
  generalize W2.alloc (.cells #[.int .i32 qx, .int .i32 qy] 23) = W3 at *
  have a8 := b2'.at 8
  have a9 := b2'.at 9
  go_upto_region 4 with fail
  have k7 := Bk.new W3 26 [.int .i32 cx, .int .i32 cy]
  replace g0 := g0.alloc (.cells #[.int .i32 cx, .int .i32 cy] 26)
  replace k5 := k5.alloc (.cells #[.int .i32 cx, .int .i32 cy] 26)
  replace k6 := k6.alloc (.cells #[.int .i32 cx, .int .i32 cy] 26)
  clear a8 a9 b2'
  obtain ⟨B7, h7⟩ : ∃ B7, B7 = W3.heap.size := ⟨_, rfl⟩
  rw [← h7] at k7 ⊢
  clear h7
  generalize W3.alloc (.cells #[.int .i32 cx, .int .i32 cy] 26) = W4 at *
  have hb := g0.below
  clear g0
  obtain ⟨p0, p1⟩ := k5.two
  obtain ⟨q0, q1⟩ := k6.two
  cases b0
  · go_wp2_with (first
      | (go_at_call 24; refine (F1.out _).mono ?_; rintro e w1 ⟨rfl, rfl⟩; clear F1)
      | (go_at_call 17; refine (LV.out _).mono ?_; rintro e w7 ⟨rfl, h7⟩))
    go_ret
    exact ⟨rfl, hb.trans (h7.mono hb.size)⟩
  · cases b1
    · go_wp2_with (first
        | (go_at_call 24; refine (F1.out _).mono ?_; rintro e w1 ⟨rfl, rfl⟩; clear F1)
        | (go_at_call 25; refine (F2.out _).mono ?_; rintro e w2 ⟨rfl, g2⟩; clear F2)
        | (go_at_call 17; refine (LV.out _).mono ?_; rintro e w7 ⟨rfl, h7⟩))
      go_ret
      have hb2 := hb.trans (g2.below.mono hb.size)
      exact ⟨rfl, hb2.trans (h7.mono hb2.size)⟩
    · cases b2
      · go_upto_region 5 with (first
          | (go_at_call 24; refine (F1.out _).mono ?_; rintro e w1 ⟨rfl, rfl⟩; clear F1)
          | (go_at_call 25; refine (F2.out _).mono ?_; rintro e w2 ⟨rfl, g2⟩; clear F2; have r0 := (k6.gr g2).two.1; have r1 := (k6.gr g2).two.2)
          | (go_at_call 25; refine (F3.out _).mono ?_; rintro e w3 ⟨rfl, g3⟩; clear F3))
        go_wp2_with (go_at_call 17; refine (LV.out _).mono ?_; rintro e w7 ⟨rfl, h7⟩)
        go_ret
        have hb2 := hb.trans ((g2.trans g3).below.mono hb.size)
        exact ⟨rfl, hb2.trans (h7.mono hb2.size)⟩
      · simp at hno

set_option maxRecDepth 20000 in
set_option maxHeartbeats 40000000 in
theorem all_good (px py qx qy a b c e cx cy s : Int) (hpx : in32 px) (hpy : in32 py) (hcx : in32 cx) (hcy : in32 cy) (hs : szB s = true) (hp : plB px py = true) (hq : plB qx qy = true) (w : World) :
    Calls Try.prog 6 #[.agg #[.int .i32 px, .int .i32 py, .int .i32 qx, .int .i32 qy, .int .i32 a, .int .i32 b, .int .i32 c, .int .i32 e, .int .i32 cx, .int .i32 cy], .int .i64 s] w fun e w' => e = .returned (.bool true) ∧ Below w.heap.size w w' := by
  have F1 := hid0 (fits_any s)
  have F2 := hid0 (in_any px py)
  have F3 := hid0 (in_any qx qy)
  rw [hs] at F1
  rw [hp] at F2
  rw [hq] at F3
  have LV := hid0 lives_any
  have O1 := hid0 (of_any px py s hpx hpy)
  rw [show (ofC px py s) = (px / s, py / s) by unfold ofC; rw [if_pos hs], show ofE s = 0 by unfold ofE; rw [if_pos hs]] at O1
  obtain ⟨own1, own2⟩ := sq_own hs hp
  have Q1 := hid0 (square_any (px / s) (py / s) s (ediv_32 (szB_iff.1 hs).1 hpx) (ediv_32 (szB_iff.1 hs).1 hpy))
  rw [own1, show sqV (px / s) (py / s) s = bx (sLo (px / s) s) (sLo (py / s) s) (sHi (px / s) s) (sHi (py / s) s) by unfold sqV; rw [if_pos own1]] at Q1
  have H1 := hid0 (has_any (sLo (px / s) s) (sLo (py / s) s) (sHi (px / s) s) (sHi (py / s) s) px py)
  rw [own2] at H1
  obtain ⟨j0, j1, j2, j3, sq, hb2, Q2, H2, HO⟩ : ∃ j0 j1 j2 j3 sq hb2, Hid (∀ w, Calls Try.prog 9 #[pt cx cy, .int .i64 s] w fun e w' => e = .returned (.tuple #[bx j0 j1 j2 j3, .bool sq]) ∧ Gr w w') ∧ Hid (∀ w, Calls Try.prog 26 #[bx j0 j1 j2 j3, pt px py] w fun e w' => e = .returned (.bool hb2) ∧ Gr w w') ∧ Hid (sq = true → hb2 = true → cx = px / s ∧ cy = py / s) := by
    by_cases h : sqB cx cy s = true
    · refine ⟨sLo cx s, sLo cy s, sHi cx s, sHi cy s, true, hasB (sLo cx s) (sLo cy s) (sHi cx s) (sHi cy s) px py, fun w => ?_, has_any _ _ _ _ px py, fun _ h2 => sq_other hs h2⟩
      have := square_any cx cy s hcx hcy w
      rw [h, show sqV cx cy s = bx (sLo cx s) (sLo cy s) (sHi cx s) (sHi cy s) by unfold sqV; rw [if_pos h]] at this
      exact this
    · have h' : sqB cx cy s = false := by simpa using h
      refine ⟨0, 0, 0, 0, false, hasB 0 0 0 0 px py, fun w => ?_, has_any _ _ _ _ px py, fun h2 => by cases h2⟩
      have := square_any cx cy s hcx hcy w
      rw [h', show sqV cx cy s = bx 0 0 0 0 by unfold sqV; rw [h']; rfl] at this
      exact this
  obtain ⟨nx, ny, gx, gy, HX⟩ : ∃ nx ny gx gy, Hid ((if qx < px then qx else px) = nx ∧ (if qy < py then qy else py) = ny ∧ (if px < qx then qx else px) = gx ∧ (if py < qy then qy else py) = gy) := ⟨_, _, _, _, rfl, rfl, rfl, rfl⟩
  have hrt : (szB s && rtB nx ny gx gy) = true ∧ nx ≤ px ∧ px ≤ gx ∧ ny ≤ py ∧ py ≤ gy := by
    obtain ⟨h1, h2, h3, h4⟩ := HX.out
    have hp' := plB_iff.1 hp
    have hq' := plB_iff.1 hq
    have o1 : nx ≤ px ∧ nx ≤ qx ∧ (nx = px ∨ nx = qx) := by rw [← h1]; split <;> omega
    have o2 : ny ≤ py ∧ ny ≤ qy ∧ (ny = py ∨ ny = qy) := by rw [← h2]; split <;> omega
    have o3 : px ≤ gx ∧ qx ≤ gx ∧ (gx = px ∨ gx = qx) := by rw [← h3]; split <;> omega
    have o4 : py ≤ gy ∧ qy ≤ gy ∧ (gy = py ∨ gy = qy) := by rw [← h4]; split <;> omega
    refine ⟨?_, by omega, by omega, by omega, by omega⟩
    rw [hs, Bool.true_and]
    unfold rtB
    simp only [Bool.and_eq_true, decide_eq_true_eq, plB_iff]
    omega
  obtain ⟨hrt, hn1, hn2, hn3, hn4⟩ := hrt
  have hmem := cov_mem hrt hn1 hn2 hn3 hn4
  have hcl := cov_len nx ny gx gy s
  have CA := hid0 (cover_any nx ny gx gy s)
  have FC := hid0 (fun w bs bb => firstCover nx ny gx gy s w bs bb)
  have N1 := hid0 (count_any nx ny gx gy s)
  have SW := hid0 (side_walk (px, py) (qx, qy) s (by rw [hs, hp, hq]; rfl))
  have hM : ((covL nx ny gx gy s).take 401).length ≤ 401 := by rw [List.length_take]; omega
  have HM : Hid (((covL nx ny gx gy s).take 401).length ≤ 400 ∧ cntP nx ny gx gy s = ((covL nx ny gx gy s).take 401).length ∧ (px / s, py / s) ∈ (covL nx ny gx gy s).take 401 ∨ 400 < ((covL nx ny gx gy s).take 401).length ∧ 400 < cntP nx ny gx gy s) := by
    by_cases h : (covL nx ny gx gy s).length ≤ 400
    · left
      rw [List.take_of_length_le (by omega)]
      exact ⟨h, hcl.symm, hmem⟩
    · right
      rw [List.length_take]
      omega
  generalize (covL nx ny gx gy s).take 401 = M at *
  generalize cntP nx ny gx gy s = cn at *
  have I1 : Hid (∀ ao ca w, Pts w ao M → Calls Try.prog 28 #[.slice ao M.length ca, pt (px / s) (py / s)] w fun e w' => e = .returned (.bool (decide ((px / s, py / s) ∈ M))) ∧ Gr w w') := fun ao ca w h => in28_any ao ca M (px / s, py / s) w (by omega) h
  clear hmem hcl hrt hn1 hn2 hn3 hn4 own1 own2 hs hp hq hpx hpy hcx hcy
  generalize px / s = ax at *
  generalize py / s = ay at *
  generalize sLo ax s = k0 at *
  generalize sLo ay s = k1 at *
  generalize sHi ax s = k2 at *
  generalize sHi ay s = k3 at *
  have b2' := Bk.new w 28 [.int .i32 px, .int .i32 py, .int .i32 qx, .int .i32 qy, .int .i32 a, .int .i32 b, .int .i32 c, .int .i32 e, .int .i32 cx, .int .i32 cy]
  have g0 : Gr w (w.alloc (.cells #[.int .i32 px, .int .i32 py, .int .i32 qx, .int .i32 qy, .int .i32 a, .int .i32 b, .int .i32 c, .int .i32 e, .int .i32 cx, .int .i32 cy] 28)) := (Gr.refl _).alloc _
  go_enter Try.func6, Try.ntmps6
  go_upto_region 1 with fail
  generalize w.alloc (.cells #[.int .i32 px, .int .i32 py, .int .i32 qx, .int .i32 qy, .int .i32 a, .int .i32 b, .int .i32 c, .int .i32 e, .int .i32 cx, .int .i32 cy] 28) = W1 at *
  have a0 := b2'.at 0
  have a1 := b2'.at 1
  go_upto_region 2 with fail
  have k5 := Bk.new W1 23 [.int .i32 px, .int .i32 py]
  replace g0 := g0.alloc (.cells #[.int .i32 px, .int .i32 py] 23)
  replace b2' := b2'.alloc (.cells #[.int .i32 px, .int .i32 py] 23)
  clear a0 a1
  obtain ⟨B5, h5⟩ : ∃ B5, B5 = W1.heap.size := ⟨_, rfl⟩
  rw [← h5] at k5 ⊢
  clear h5
  generalize W1.alloc (.cells #[.int .i32 px, .int .i32 py] 23) = W2 at *
  have a2 := b2'.at 2
  have a3 := b2'.at 3
  go_upto_region 3 with fail
  have k6 := Bk.new W2 23 [.int .i32 qx, .int .i32 qy]
  replace g0 := g0.alloc (.cells #[.int .i32 qx, .int .i32 qy] 23)
  replace b2' := b2'.alloc (.cells #[.int .i32 qx, .int .i32 qy] 23)
  replace k5 := k5.alloc (.cells #[.int .i32 qx, .int .i32 qy] 23)
  clear a2 a3
  obtain ⟨B6, h6⟩ : ∃ B6, B6 = W2.heap.size := ⟨_, rfl⟩
  rw [← h6] at k6 ⊢
  clear h6
  generalize W2.alloc (.cells #[.int .i32 qx, .int .i32 qy] 23) = W3 at *
  have a8 := b2'.at 8
  have a9 := b2'.at 9
  go_upto_region 4 with fail
  have k7 := Bk.new W3 26 [.int .i32 cx, .int .i32 cy]
  replace g0 := g0.alloc (.cells #[.int .i32 cx, .int .i32 cy] 26)
  replace k5 := k5.alloc (.cells #[.int .i32 cx, .int .i32 cy] 26)
  replace k6 := k6.alloc (.cells #[.int .i32 cx, .int .i32 cy] 26)
  clear a8 a9 b2'
  obtain ⟨B7, h7⟩ : ∃ B7, B7 = W3.heap.size := ⟨_, rfl⟩
  rw [← h7] at k7 ⊢
  clear h7
  generalize W3.alloc (.cells #[.int .i32 cx, .int .i32 cy] 26) = W4 at *
  have hb := g0.below
  clear g0
  obtain ⟨p0, p1⟩ := k5.two
  obtain ⟨q0, q1⟩ := k6.two
  go_upto_region 6 with (first
    | (go_at_call 24; refine (F1.out _).mono ?_; rintro e w1 ⟨rfl, rfl⟩; clear F1)
    | (go_at_call 25; refine (F2.out _).mono ?_; rintro e w2 ⟨rfl, g2⟩; clear F2; have r0 := (k6.gr g2).two.1; have r1 := (k6.gr g2).two.2)
    | (go_at_call 25; refine (F3.out _).mono ?_; rintro e w3 ⟨rfl, g3⟩; clear F3))
  replace hb := hb.trans ((g2.trans g3).below.mono hb.size)
  replace k5 := k5.gr (g2.trans g3)
  replace k6 := k6.gr (g2.trans g3)
  replace k7 := k7.gr (g2.trans g3)
  clear r0 r1 g2 g3 p0 p1 q0 q1
  obtain ⟨p0, p1⟩ := k5.two
  go_upto_region 7 with (go_at_call 7; refine (O1.out _).mono ?_; rintro e w4 ⟨rfl, gg⟩; clear O1)
  clear p0 p1
  have k8 := Bk.new w4 26 [.int .i32 ax, .int .i32 ay]
  replace k5 := (k5.gr gg).alloc (.cells #[.int .i32 ax, .int .i32 ay] 26)
  replace k6 := (k6.gr gg).alloc (.cells #[.int .i32 ax, .int .i32 ay] 26)
  replace k7 := (k7.gr gg).alloc (.cells #[.int .i32 ax, .int .i32 ay] 26)
  replace hb := (hb.trans (gg.below.mono hb.size)).alloc (hb.trans (gg.below.mono hb.size)).size (.cells #[.int .i32 ax, .int .i32 ay] 26)
  clear gg
  obtain ⟨B8, h8⟩ : ∃ B8, B8 = w4.heap.size := ⟨_, rfl⟩
  rw [← h8] at k8 ⊢
  clear h8
  generalize w4.alloc (.cells #[.int .i32 ax, .int .i32 ay] 26) = W5 at *
  obtain ⟨p0, p1⟩ := k8.two
  go_upto_region 8 with (go_at_call 9; refine (Q1.out _).mono ?_; rintro e w6 ⟨rfl, gg⟩; clear Q1)
  clear p0 p1
  have k10 := Bk.new w6 25 [.int .i32 k0, .int .i32 k1, .int .i32 k2, .int .i32 k3]
  replace k5 := (k5.gr gg).alloc (.cells #[.int .i32 k0, .int .i32 k1, .int .i32 k2, .int .i32 k3] 25)
  replace k6 := (k6.gr gg).alloc (.cells #[.int .i32 k0, .int .i32 k1, .int .i32 k2, .int .i32 k3] 25)
  replace k7 := (k7.gr gg).alloc (.cells #[.int .i32 k0, .int .i32 k1, .int .i32 k2, .int .i32 k3] 25)
  replace k8 := (k8.gr gg).alloc (.cells #[.int .i32 k0, .int .i32 k1, .int .i32 k2, .int .i32 k3] 25)
  replace hb := (hb.trans (gg.below.mono hb.size)).alloc (hb.trans (gg.below.mono hb.size)).size (.cells #[.int .i32 k0, .int .i32 k1, .int .i32 k2, .int .i32 k3] 25)
  clear gg
  obtain ⟨B10, h10⟩ : ∃ B10, B10 = w6.heap.size := ⟨_, rfl⟩
  rw [← h10] at k10 ⊢
  clear h10
  generalize w6.alloc (.cells #[.int .i32 k0, .int .i32 k1, .int .i32 k2, .int .i32 k3] 25) = W6 at *
  obtain ⟨p0, p1⟩ := k7.two
  go_upto_region 9 with (go_at_call 9; refine (Q2.out _).mono ?_; rintro e w7 ⟨rfl, gg⟩; clear Q2)
  clear p0 p1
  have k12 := Bk.new w7 25 [.int .i32 j0, .int .i32 j1, .int .i32 j2, .int .i32 j3]
  replace k5 := (k5.gr gg).alloc (.cells #[.int .i32 j0, .int .i32 j1, .int .i32 j2, .int .i32 j3] 25)
  replace k6 := (k6.gr gg).alloc (.cells #[.int .i32 j0, .int .i32 j1, .int .i32 j2, .int .i32 j3] 25)
  replace k7 := (k7.gr gg).alloc (.cells #[.int .i32 j0, .int .i32 j1, .int .i32 j2, .int .i32 j3] 25)
  replace k8 := (k8.gr gg).alloc (.cells #[.int .i32 j0, .int .i32 j1, .int .i32 j2, .int .i32 j3] 25)
  replace k10 := (k10.gr gg).alloc (.cells #[.int .i32 j0, .int .i32 j1, .int .i32 j2, .int .i32 j3] 25)
  replace hb := (hb.trans (gg.below.mono hb.size)).alloc (hb.trans (gg.below.mono hb.size)).size (.cells #[.int .i32 j0, .int .i32 j1, .int .i32 j2, .int .i32 j3] 25)
  clear gg
  obtain ⟨B12, h12⟩ : ∃ B12, B12 = w7.heap.size := ⟨_, rfl⟩
  rw [← h12] at k12 ⊢
  clear h12
  generalize w7.alloc (.cells #[.int .i32 j0, .int .i32 j1, .int .i32 j2, .int .i32 j3] 25) = W at *
  go_cut [78] (fun v w' => v = .bool false ∧ Hid (Gr W w'))
  case first =>
    clear CA FC N1 I1 SW LV HM HX hb
    obtain ⟨p0, p1⟩ := k5.two
    obtain ⟨c0, c1⟩ := k7.two
    obtain ⟨a0, a1⟩ := k8.two
    have t0 := k10.four.1
    have t1 := k10.four.2.1
    have t2 := k10.four.2.2.1
    have t3 := k10.four.2.2.2
    cases sq with
    | false =>
      go_wp2_with (go_at_call 26; refine (H1.out _).mono ?_; rintro e w8 ⟨rfl, g8⟩; clear H1)
      go_meet
      case rel => exact ⟨rfl, g8⟩
    | true =>
      by_cases hx : cx = ax
      · rw [hx] at c0
        by_cases hy : cy = ay
        · rw [hy] at c1
          clear hx hy
          go_wp2_with (go_at_call 26; refine (H1.out _).mono ?_; rintro e w8 ⟨rfl, g8⟩; clear H1; replace c0 := below_cell c0 g8.below; replace c1 := below_cell c1 g8.below; replace a0 := below_cell a0 g8.below; replace a1 := below_cell a1 g8.below)
          go_meet
          case rel => exact ⟨rfl, g8⟩
        · have hy' : (cy == ay) = false := by simp [hy]
          have eh : hb2 = false := by
            cases hb2
            · rfl
            · exact absurd (HO.out rfl rfl).2 hy
          subst eh
          clear hx
          have r0 := k12.four.1
          have r1 := k12.four.2.1
          have r2 := k12.four.2.2.1
          have r3 := k12.four.2.2.2
          go_wp2_with (first
            | (go_at_call 26; refine (H1.out _).mono ?_; rintro e w8 ⟨rfl, g8⟩; clear H1; replace c0 := below_cell c0 g8.below; replace c1 := below_cell c1 g8.below; replace a0 := below_cell a0 g8.below; replace a1 := below_cell a1 g8.below; replace p0 := below_cell p0 g8.below; replace p1 := below_cell p1 g8.below; replace r0 := below_cell r0 g8.below; replace r1 := below_cell r1 g8.below; replace r2 := below_cell r2 g8.below; replace r3 := below_cell r3 g8.below)
            | (go_at_call 26; refine (H2.out _).mono ?_; rintro e w9 ⟨rfl, g9⟩; clear H2))
          go_meet
          case rel => exact ⟨rfl, g8.trans g9⟩
      · have hx' : (cx == ax) = false := by simp [hx]
        have eh : hb2 = false := by
          cases hb2
          · rfl
          · exact absurd (HO.out rfl rfl).1 hx
        subst eh
        have r0 := k12.four.1
        have r1 := k12.four.2.1
        have r2 := k12.four.2.2.1
        have r3 := k12.four.2.2.2
        go_wp2_with (first
          | (go_at_call 26; refine (H1.out _).mono ?_; rintro e w8 ⟨rfl, g8⟩; clear H1; replace c0 := below_cell c0 g8.below; replace c1 := below_cell c1 g8.below; replace a0 := below_cell a0 g8.below; replace a1 := below_cell a1 g8.below; replace p0 := below_cell p0 g8.below; replace p1 := below_cell p1 g8.below; replace r0 := below_cell r0 g8.below; replace r1 := below_cell r1 g8.below; replace r2 := below_cell r2 g8.below; replace r3 := below_cell r3 g8.below)
          | (go_at_call 26; refine (H2.out _).mono ?_; rintro e w9 ⟨rfl, g9⟩; clear H2))
        go_meet
        case rel => exact ⟨rfl, g8.trans g9⟩
  obtain ⟨rfl, hcut⟩ := hcut
  have hG := hcut.out
  clear hcut H1 H2 HO k10 k12
  replace k5 := k5.gr hG
  replace k6 := k6.gr hG
  replace k7 := k7.gr hG
  replace k8 := k8.gr hG
  replace hb := hb.trans (hG.below.mono hb.size)
  clear hG
  go_upto_region 11 with fail
  obtain ⟨nF, hnF⟩ : ∃ nF : Nat, 5 ≤ nF := ⟨5, by omega⟩
  have h1n : 1 ≤ nF := by omega
  refine (wpIn_wide (n := nF)).1 ?_
  refine region_inv (by kernel_rfl) (by kernel_rfl) (InvA wc B5 B6 B8 px py qx qy nx ny gx gy s (.agg #[.int .i32 px, .int .i32 py, .int .i32 qx, .int .i32 qy, .int .i32 a, .int .i32 b, .int .i32 c, .int .i32 e, .int .i32 cx, .int .i32 cy]) (.pointer (some ⟨w.heap.size, 0, none⟩)) undef (.bool false) (.pointer (some ⟨B7, 0, none⟩)) (.int .i64 0) (.pointer (some ⟨B10, 0, none⟩)) (.bool true) (.pointer (some ⟨B12, 0, none⟩)) (.bool sq) undef u16 u17 u18 u19 u20 u21 u22 u23 u24 u25 u26 u27 u28 u29 u30 u31 u32 u33 u34 u35 u36 u37 u38 u39 u40 u41 u42 u43 u44 u45 u46 u47 u48 u49 u50 u51 u52 u53 u54 u55 u56 u57 u58 u59 u60 u61 u62 u63 u64 u65 u66 u67 u68 u69 u70 u71 u72 u73 u74 u75 u76 u77 (.bool false) u102 u103 u104 u105 u106 u107 u108 u109 u110 u111 u112 u113 u114 u115 u116 u117 u118 u119 u120 u121 u122 u123 u124 u125 u126 u127 u128 u129 u130 u131 u132 u133 u134 u135 u136 u137 u138 u139 u140) ?h0 ?hstep ?hend
  case h0 =>
    exact ⟨_, _, _, _, _, _, _, _, _, _, _, _, _, _, _, _, _, _, _, _, _, _, _, _, rfl, (Gr.refl _).drew, fun h => h.elim, fun h => h.elim, fun h => h.elim, fun h => h.elim, fun h => h.elim, fun h => h.elim, fun h => h.elim, fun h => h.elim, fun h => h.elim, fun h => h.elim, fun h => h.elim, fun h => h.elim, fun h => h.elim, fun h => h.elim, fun h => h.elim, fun h => h.elim, fun h => h.elim, fun h => h.elim, fun h => h.elim, fun h => h.elim, fun h => h.elim, fun h => h.elim, fun h => h.elim, fun h => h.elim⟩
  case hstep =>
    clear CA FC N1 I1 SW LV k7 k8 hb
    intro d' a' wI i o ho hnd D hdn hI
    have hi := (List.getElem?_eq_some_iff.1 ho).1
    simp only [List.length_cons, List.length_nil] at hi
    have : i = 0 ∨ i = 1 ∨ i = 2 ∨ i = 3 ∨ i = 4 ∨ i = 5 ∨ i = 6 ∨ i = 7 ∨ i = 8 ∨ i = 9 ∨ i = 10 ∨ i = 11 ∨ i = 12 ∨ i = 13 ∨ i = 14 ∨ i = 15 ∨ i = 16 ∨ i = 17 ∨ i = 18 ∨ i = 19 ∨ i = 20 ∨ i = 21 ∨ i = 22 ∨ i = 23 ∨ i = 24 := by omega
    rcases this with rfl | rfl | rfl | rfl | rfl | rfl | rfl | rfl | rfl | rfl | rfl | rfl | rfl | rfl | rfl | rfl | rfl | rfl | rfl | rfl | rfl | rfl | rfl | rfl | rfl
    · -- 0
      cases ho
      obtain ⟨u14, u79, u80, u81, u82, u83, u84, u85, u86, u87, u88, u89, u90, u91, u92, u93, u94, u95, u96, u97, u98, u99, u100, u101, rfl, hG, f0, f1, f2, f3, f4, f5, f6, f7, f8, f9, f10, f11, f12, f13, f14, f15, f16, f17, f18, f19, f20, f21, f22, g23⟩ := hI
      gi_wp2
      exact ⟨_, _, _, _, _, _, _, _, _, _, _, _, _, _, _, _, _, _, _, _, _, _, _, _, rfl, hG, (fun _ => rfl), (fun h => f1.out (or_ne h (by decide))), (fun h => f2.out (or_ne h (by decide))), (fun h => f3.out (or_ne h (by decide))), (fun h => f4.out (or_ne h (by decide))), (fun h => f5.out (or_ne h (by decide))), (fun h => f6.out (or_ne h (by decide))), (fun h => f7.out (or_ne h (by decide))), (fun h => f8.out (or_ne h (by decide))), (fun h => f9.out (or_ne h (by decide))), (fun h => f10.out (or_ne h (by decide))), (fun h => f11.out (or_ne h (by decide))), (fun h => f12.out (or_ne h (by decide))), (fun h => f13.out (or_ne h (by decide))), (fun h => f14.out (or_ne h (by decide))), (fun h => f15.out (or_ne h (by decide))), (fun h => f16.out (or_ne h (by decide))), (fun h => f17.out (or_ne h (by decide))), (fun h => f18.out (or_ne h (by decide))), (fun h => f19.out (or_ne h (by decide))), (fun h => f20.out (or_ne h (by decide))), (fun h => f21.out (or_ne h (by decide))), (fun h => f22.out (or_ne h (by decide))), (fun h => by obtain ⟨B, x0, x1, x2, x3, q1, q2, q3, q4⟩ := g23.out (or_ne h (by decide)); exact ⟨B, x0, x1, x2, x3, q1, q2, q3, fun h => q4 (or_ne h (by decide))⟩)⟩
    · -- 1
      cases ho
      obtain ⟨u14, u79, u80, u81, u82, u83, u84, u85, u86, u87, u88, u89, u90, u91, u92, u93, u94, u95, u96, u97, u98, u99, u100, u101, rfl, hG, f0, f1, f2, f3, f4, f5, f6, f7, f8, f9, f10, f11, f12, f13, f14, f15, f16, f17, f18, f19, f20, f21, f22, g23⟩ := hI
      have e0 := f0.out (D 0 (by kernel_rfl))
      subst e0
      obtain ⟨p0, p1⟩ := (k5.gr hG).two
      gi_wp2
      exact ⟨_, _, _, _, _, _, _, _, _, _, _, _, _, _, _, _, _, _, _, _, _, _, _, _, rfl, hG, (fun _ => rfl), (fun _ => rfl), (fun h => f2.out (or_ne h (by decide))), (fun h => f3.out (or_ne h (by decide))), (fun h => f4.out (or_ne h (by decide))), (fun h => f5.out (or_ne h (by decide))), (fun h => f6.out (or_ne h (by decide))), (fun h => f7.out (or_ne h (by decide))), (fun h => f8.out (or_ne h (by decide))), (fun h => f9.out (or_ne h (by decide))), (fun h => f10.out (or_ne h (by decide))), (fun h => f11.out (or_ne h (by decide))), (fun h => f12.out (or_ne h (by decide))), (fun h => f13.out (or_ne h (by decide))), (fun h => f14.out (or_ne h (by decide))), (fun h => f15.out (or_ne h (by decide))), (fun h => f16.out (or_ne h (by decide))), (fun h => f17.out (or_ne h (by decide))), (fun h => f18.out (or_ne h (by decide))), (fun h => f19.out (or_ne h (by decide))), (fun h => f20.out (or_ne h (by decide))), (fun h => f21.out (or_ne h (by decide))), (fun h => f22.out (or_ne h (by decide))), (fun h => by obtain ⟨B, x0, x1, x2, x3, q1, q2, q3, q4⟩ := g23.out (or_ne h (by decide)); exact ⟨B, x0, x1, x2, x3, q1, q2, q3, fun h => q4 (or_ne h (by decide))⟩)⟩
    · -- 2
      cases ho
      obtain ⟨u14, u79, u80, u81, u82, u83, u84, u85, u86, u87, u88, u89, u90, u91, u92, u93, u94, u95, u96, u97, u98, u99, u100, u101, rfl, hG, f0, f1, f2, f3, f4, f5, f6, f7, f8, f9, f10, f11, f12, f13, f14, f15, f16, f17, f18, f19, f20, f21, f22, g23⟩ := hI
      gi_wp2
      exact ⟨_, _, _, _, _, _, _, _, _, _, _, _, _, _, _, _, _, _, _, _, _, _, _, _, rfl, hG, (fun h => f0.out (or_ne h (by decide))), (fun h => f1.out (or_ne h (by decide))), (fun _ => rfl), (fun h => f3.out (or_ne h (by decide))), (fun h => f4.out (or_ne h (by decide))), (fun h => f5.out (or_ne h (by decide))), (fun h => f6.out (or_ne h (by decide))), (fun h => f7.out (or_ne h (by decide))), (fun h => f8.out (or_ne h (by decide))), (fun h => f9.out (or_ne h (by decide))), (fun h => f10.out (or_ne h (by decide))), (fun h => f11.out (or_ne h (by decide))), (fun h => f12.out (or_ne h (by decide))), (fun h => f13.out (or_ne h (by decide))), (fun h => f14.out (or_ne h (by decide))), (fun h => f15.out (or_ne h (by decide))), (fun h => f16.out (or_ne h (by decide))), (fun h => f17.out (or_ne h (by decide))), (fun h => f18.out (or_ne h (by decide))), (fun h => f19.out (or_ne h (by decide))), (fun h => f20.out (or_ne h (by decide))), (fun h => f21.out (or_ne h (by decide))), (fun h => f22.out (or_ne h (by decide))), (fun h => by obtain ⟨B, x0, x1, x2, x3, q1, q2, q3, q4⟩ := g23.out (or_ne h (by decide)); exact ⟨B, x0, x1, x2, x3, q1, q2, q3, fun h => q4 (or_ne h (by decide))⟩)⟩
    · -- 3
      cases ho
      obtain ⟨u14, u79, u80, u81, u82, u83, u84, u85, u86, u87, u88, u89, u90, u91, u92, u93, u94, u95, u96, u97, u98, u99, u100, u101, rfl, hG, f0, f1, f2, f3, f4, f5, f6, f7, f8, f9, f10, f11, f12, f13, f14, f15, f16, f17, f18, f19, f20, f21, f22, g23⟩ := hI
      have e2 := f2.out (D 2 (by kernel_rfl))
      subst e2
      obtain ⟨q0, q1⟩ := (k6.gr hG).two
      gi_wp2
      exact ⟨_, _, _, _, _, _, _, _, _, _, _, _, _, _, _, _, _, _, _, _, _, _, _, _, rfl, hG, (fun h => f0.out (or_ne h (by decide))), (fun h => f1.out (or_ne h (by decide))), (fun _ => rfl), (fun _ => rfl), (fun h => f4.out (or_ne h (by decide))), (fun h => f5.out (or_ne h (by decide))), (fun h => f6.out (or_ne h (by decide))), (fun h => f7.out (or_ne h (by decide))), (fun h => f8.out (or_ne h (by decide))), (fun h => f9.out (or_ne h (by decide))), (fun h => f10.out (or_ne h (by decide))), (fun h => f11.out (or_ne h (by decide))), (fun h => f12.out (or_ne h (by decide))), (fun h => f13.out (or_ne h (by decide))), (fun h => f14.out (or_ne h (by decide))), (fun h => f15.out (or_ne h (by decide))), (fun h => f16.out (or_ne h (by decide))), (fun h => f17.out (or_ne h (by decide))), (fun h => f18.out (or_ne h (by decide))), (fun h => f19.out (or_ne h (by decide))), (fun h => f20.out (or_ne h (by decide))), (fun h => f21.out (or_ne h (by decide))), (fun h => f22.out (or_ne h (by decide))), (fun h => by obtain ⟨B, x0, x1, x2, x3, q1, q2, q3, q4⟩ := g23.out (or_ne h (by decide)); exact ⟨B, x0, x1, x2, x3, q1, q2, q3, fun h => q4 (or_ne h (by decide))⟩)⟩
    · -- 4
      cases ho
      obtain ⟨u14, u79, u80, u81, u82, u83, u84, u85, u86, u87, u88, u89, u90, u91, u92, u93, u94, u95, u96, u97, u98, u99, u100, u101, rfl, hG, f0, f1, f2, f3, f4, f5, f6, f7, f8, f9, f10, f11, f12, f13, f14, f15, f16, f17, f18, f19, f20, f21, f22, g23⟩ := hI
      have e1 := f1.out (D 1 (by kernel_rfl))
      subst e1
      have e3 := f3.out (D 3 (by kernel_rfl))
      subst e3
      have X := HX.out.1
      gi_wp2
      exact ⟨_, _, _, _, _, _, _, _, _, _, _, _, _, _, _, _, _, _, _, _, _, _, _, _, rfl, hG, (fun h => f0.out (or_ne h (by decide))), (fun _ => rfl), (fun h => f2.out (or_ne h (by decide))), (fun _ => rfl), (fun _ => by first | rfl | (rw [X]; try rfl)), (fun h => f5.out (or_ne h (by decide))), (fun h => f6.out (or_ne h (by decide))), (fun h => f7.out (or_ne h (by decide))), (fun h => f8.out (or_ne h (by decide))), (fun h => f9.out (or_ne h (by decide))), (fun h => f10.out (or_ne h (by decide))), (fun h => f11.out (or_ne h (by decide))), (fun h => f12.out (or_ne h (by decide))), (fun h => f13.out (or_ne h (by decide))), (fun h => f14.out (or_ne h (by decide))), (fun h => f15.out (or_ne h (by decide))), (fun h => f16.out (or_ne h (by decide))), (fun h => f17.out (or_ne h (by decide))), (fun h => f18.out (or_ne h (by decide))), (fun h => f19.out (or_ne h (by decide))), (fun h => f20.out (or_ne h (by decide))), (fun h => f21.out (or_ne h (by decide))), (fun h => f22.out (or_ne h (by decide))), (fun h => by obtain ⟨B, x0, x1, x2, x3, q1, q2, q3, q4⟩ := g23.out (or_ne h (by decide)); exact ⟨B, x0, x1, x2, x3, q1, q2, q3, fun h => q4 (or_ne h (by decide))⟩)⟩
    · -- 5
      cases ho
      obtain ⟨u14, u79, u80, u81, u82, u83, u84, u85, u86, u87, u88, u89, u90, u91, u92, u93, u94, u95, u96, u97, u98, u99, u100, u101, rfl, hG, f0, f1, f2, f3, f4, f5, f6, f7, f8, f9, f10, f11, f12, f13, f14, f15, f16, f17, f18, f19, f20, f21, f22, g23⟩ := hI
      gi_wp2
      exact ⟨_, _, _, _, _, _, _, _, _, _, _, _, _, _, _, _, _, _, _, _, _, _, _, _, rfl, hG, (fun h => f0.out (or_ne h (by decide))), (fun h => f1.out (or_ne h (by decide))), (fun h => f2.out (or_ne h (by decide))), (fun h => f3.out (or_ne h (by decide))), (fun h => f4.out (or_ne h (by decide))), (fun _ => rfl), (fun h => f6.out (or_ne h (by decide))), (fun h => f7.out (or_ne h (by decide))), (fun h => f8.out (or_ne h (by decide))), (fun h => f9.out (or_ne h (by decide))), (fun h => f10.out (or_ne h (by decide))), (fun h => f11.out (or_ne h (by decide))), (fun h => f12.out (or_ne h (by decide))), (fun h => f13.out (or_ne h (by decide))), (fun h => f14.out (or_ne h (by decide))), (fun h => f15.out (or_ne h (by decide))), (fun h => f16.out (or_ne h (by decide))), (fun h => f17.out (or_ne h (by decide))), (fun h => f18.out (or_ne h (by decide))), (fun h => f19.out (or_ne h (by decide))), (fun h => f20.out (or_ne h (by decide))), (fun h => f21.out (or_ne h (by decide))), (fun h => f22.out (or_ne h (by decide))), (fun h => by obtain ⟨B, x0, x1, x2, x3, q1, q2, q3, q4⟩ := g23.out (or_ne h (by decide)); exact ⟨B, x0, x1, x2, x3, q1, q2, q3, fun h => q4 (or_ne h (by decide))⟩)⟩
    · -- 6
      cases ho
      obtain ⟨u14, u79, u80, u81, u82, u83, u84, u85, u86, u87, u88, u89, u90, u91, u92, u93, u94, u95, u96, u97, u98, u99, u100, u101, rfl, hG, f0, f1, f2, f3, f4, f5, f6, f7, f8, f9, f10, f11, f12, f13, f14, f15, f16, f17, f18, f19, f20, f21, f22, g23⟩ := hI
      have e5 := f5.out (D 5 (by kernel_rfl))
      subst e5
      obtain ⟨p0, p1⟩ := (k5.gr hG).two
      gi_wp2
      exact ⟨_, _, _, _, _, _, _, _, _, _, _, _, _, _, _, _, _, _, _, _, _, _, _, _, rfl, hG, (fun h => f0.out (or_ne h (by decide))), (fun h => f1.out (or_ne h (by decide))), (fun h => f2.out (or_ne h (by decide))), (fun h => f3.out (or_ne h (by decide))), (fun h => f4.out (or_ne h (by decide))), (fun _ => rfl), (fun _ => rfl), (fun h => f7.out (or_ne h (by decide))), (fun h => f8.out (or_ne h (by decide))), (fun h => f9.out (or_ne h (by decide))), (fun h => f10.out (or_ne h (by decide))), (fun h => f11.out (or_ne h (by decide))), (fun h => f12.out (or_ne h (by decide))), (fun h => f13.out (or_ne h (by decide))), (fun h => f14.out (or_ne h (by decide))), (fun h => f15.out (or_ne h (by decide))), (fun h => f16.out (or_ne h (by decide))), (fun h => f17.out (or_ne h (by decide))), (fun h => f18.out (or_ne h (by decide))), (fun h => f19.out (or_ne h (by decide))), (fun h => f20.out (or_ne h (by decide))), (fun h => f21.out (or_ne h (by decide))), (fun h => f22.out (or_ne h (by decide))), (fun h => by obtain ⟨B, x0, x1, x2, x3, q1, q2, q3, q4⟩ := g23.out (or_ne h (by decide)); exact ⟨B, x0, x1, x2, x3, q1, q2, q3, fun h => q4 (or_ne h (by decide))⟩)⟩
    · -- 7
      cases ho
      obtain ⟨u14, u79, u80, u81, u82, u83, u84, u85, u86, u87, u88, u89, u90, u91, u92, u93, u94, u95, u96, u97, u98, u99, u100, u101, rfl, hG, f0, f1, f2, f3, f4, f5, f6, f7, f8, f9, f10, f11, f12, f13, f14, f15, f16, f17, f18, f19, f20, f21, f22, g23⟩ := hI
      gi_wp2
      exact ⟨_, _, _, _, _, _, _, _, _, _, _, _, _, _, _, _, _, _, _, _, _, _, _, _, rfl, hG, (fun h => f0.out (or_ne h (by decide))), (fun h => f1.out (or_ne h (by decide))), (fun h => f2.out (or_ne h (by decide))), (fun h => f3.out (or_ne h (by decide))), (fun h => f4.out (or_ne h (by decide))), (fun h => f5.out (or_ne h (by decide))), (fun h => f6.out (or_ne h (by decide))), (fun _ => rfl), (fun h => f8.out (or_ne h (by decide))), (fun h => f9.out (or_ne h (by decide))), (fun h => f10.out (or_ne h (by decide))), (fun h => f11.out (or_ne h (by decide))), (fun h => f12.out (or_ne h (by decide))), (fun h => f13.out (or_ne h (by decide))), (fun h => f14.out (or_ne h (by decide))), (fun h => f15.out (or_ne h (by decide))), (fun h => f16.out (or_ne h (by decide))), (fun h => f17.out (or_ne h (by decide))), (fun h => f18.out (or_ne h (by decide))), (fun h => f19.out (or_ne h (by decide))), (fun h => f20.out (or_ne h (by decide))), (fun h => f21.out (or_ne h (by decide))), (fun h => f22.out (or_ne h (by decide))), (fun h => by obtain ⟨B, x0, x1, x2, x3, q1, q2, q3, q4⟩ := g23.out (or_ne h (by decide)); exact ⟨B, x0, x1, x2, x3, q1, q2, q3, fun h => q4 (or_ne h (by decide))⟩)⟩
    · -- 8
      cases ho
      obtain ⟨u14, u79, u80, u81, u82, u83, u84, u85, u86, u87, u88, u89, u90, u91, u92, u93, u94, u95, u96, u97, u98, u99, u100, u101, rfl, hG, f0, f1, f2, f3, f4, f5, f6, f7, f8, f9, f10, f11, f12, f13, f14, f15, f16, f17, f18, f19, f20, f21, f22, g23⟩ := hI
      have e7 := f7.out (D 7 (by kernel_rfl))
      subst e7
      obtain ⟨q0, q1⟩ := (k6.gr hG).two
      gi_wp2
      exact ⟨_, _, _, _, _, _, _, _, _, _, _, _, _, _, _, _, _, _, _, _, _, _, _, _, rfl, hG, (fun h => f0.out (or_ne h (by decide))), (fun h => f1.out (or_ne h (by decide))), (fun h => f2.out (or_ne h (by decide))), (fun h => f3.out (or_ne h (by decide))), (fun h => f4.out (or_ne h (by decide))), (fun h => f5.out (or_ne h (by decide))), (fun h => f6.out (or_ne h (by decide))), (fun _ => rfl), (fun _ => rfl), (fun h => f9.out (or_ne h (by decide))), (fun h => f10.out (or_ne h (by decide))), (fun h => f11.out (or_ne h (by decide))), (fun h => f12.out (or_ne h (by decide))), (fun h => f13.out (or_ne h (by decide))), (fun h => f14.out (or_ne h (by decide))), (fun h => f15.out (or_ne h (by decide))), (fun h => f16.out (or_ne h (by decide))), (fun h => f17.out (or_ne h (by decide))), (fun h => f18.out (or_ne h (by decide))), (fun h => f19.out (or_ne h (by decide))), (fun h => f20.out (or_ne h (by decide))), (fun h => f21.out (or_ne h (by decide))), (fun h => f22.out (or_ne h (by decide))), (fun h => by obtain ⟨B, x0, x1, x2, x3, q1, q2, q3, q4⟩ := g23.out (or_ne h (by decide)); exact ⟨B, x0, x1, x2, x3, q1, q2, q3, fun h => q4 (or_ne h (by decide))⟩)⟩
    · -- 9
      cases ho
      obtain ⟨u14, u79, u80, u81, u82, u83, u84, u85, u86, u87, u88, u89, u90, u91, u92, u93, u94, u95, u96, u97, u98, u99, u100, u101, rfl, hG, f0, f1, f2, f3, f4, f5, f6, f7, f8, f9, f10, f11, f12, f13, f14, f15, f16, f17, f18, f19, f20, f21, f22, g23⟩ := hI
      have e6 := f6.out (D 6 (by kernel_rfl))
      subst e6
      have e8 := f8.out (D 8 (by kernel_rfl))
      subst e8
      have X := HX.out.2.1
      gi_wp2
      exact ⟨_, _, _, _, _, _, _, _, _, _, _, _, _, _, _, _, _, _, _, _, _, _, _, _, rfl, hG, (fun h => f0.out (or_ne h (by decide))), (fun h => f1.out (or_ne h (by decide))), (fun h => f2.out (or_ne h (by decide))), (fun h => f3.out (or_ne h (by decide))), (fun h => f4.out (or_ne h (by decide))), (fun h => f5.out (or_ne h (by decide))), (fun _ => rfl), (fun h => f7.out (or_ne h (by decide))), (fun _ => rfl), (fun _ => by first | rfl | (rw [X]; try rfl)), (fun h => f10.out (or_ne h (by decide))), (fun h => f11.out (or_ne h (by decide))), (fun h => f12.out (or_ne h (by decide))), (fun h => f13.out (or_ne h (by decide))), (fun h => f14.out (or_ne h (by decide))), (fun h => f15.out (or_ne h (by decide))), (fun h => f16.out (or_ne h (by decide))), (fun h => f17.out (or_ne h (by decide))), (fun h => f18.out (or_ne h (by decide))), (fun h => f19.out (or_ne h (by decide))), (fun h => f20.out (or_ne h (by decide))), (fun h => f21.out (or_ne h (by decide))), (fun h => f22.out (or_ne h (by decide))), (fun h => by obtain ⟨B, x0, x1, x2, x3, q1, q2, q3, q4⟩ := g23.out (or_ne h (by decide)); exact ⟨B, x0, x1, x2, x3, q1, q2, q3, fun h => q4 (or_ne h (by decide))⟩)⟩
    · -- 10
      cases ho
      obtain ⟨u14, u79, u80, u81, u82, u83, u84, u85, u86, u87, u88, u89, u90, u91, u92, u93, u94, u95, u96, u97, u98, u99, u100, u101, rfl, hG, f0, f1, f2, f3, f4, f5, f6, f7, f8, f9, f10, f11, f12, f13, f14, f15, f16, f17, f18, f19, f20, f21, f22, g23⟩ := hI
      have e4 := f4.out (D 4 (by kernel_rfl))
      subst e4
      have e9 := f9.out (D 9 (by kernel_rfl))
      subst e9
      gi_wp2_with (refine (callsIn_wide.2 (at_any nx ny _)).mono ?_; rintro e w1 ⟨rfl, h1⟩)
      have hG' := hG.trans h1
      exact ⟨_, _, _, _, _, _, _, _, _, _, _, _, _, _, _, _, _, _, _, _, _, _, _, _, rfl, hG', (fun h => f0.out (or_ne h (by decide))), (fun h => f1.out (or_ne h (by decide))), (fun h => f2.out (or_ne h (by decide))), (fun h => f3.out (or_ne h (by decide))), (fun _ => rfl), (fun h => f5.out (or_ne h (by decide))), (fun h => f6.out (or_ne h (by decide))), (fun h => f7.out (or_ne h (by decide))), (fun h => f8.out (or_ne h (by decide))), (fun _ => rfl), (fun _ => rfl), (fun h => f11.out (or_ne h (by decide))), (fun h => f12.out (or_ne h (by decide))), (fun h => f13.out (or_ne h (by decide))), (fun h => f14.out (or_ne h (by decide))), (fun h => f15.out (or_ne h (by decide))), (fun h => f16.out (or_ne h (by decide))), (fun h => f17.out (or_ne h (by decide))), (fun h => f18.out (or_ne h (by decide))), (fun h => f19.out (or_ne h (by decide))), (fun h => f20.out (or_ne h (by decide))), (fun h => f21.out (or_ne h (by decide))), (fun h => f22.out (or_ne h (by decide))), (fun h => by obtain ⟨B, x0, x1, x2, x3, q1, q2, q3, q4⟩ := g23.out (or_ne h (by decide)); exact ⟨B, x0, x1, x2, x3, q1, q2, q3.gr h1, fun h => q4 (or_ne h (by decide))⟩)⟩
    · -- 11
      cases ho
      obtain ⟨u14, u79, u80, u81, u82, u83, u84, u85, u86, u87, u88, u89, u90, u91, u92, u93, u94, u95, u96, u97, u98, u99, u100, u101, rfl, hG, f0, f1, f2, f3, f4, f5, f6, f7, f8, f9, f10, f11, f12, f13, f14, f15, f16, f17, f18, f19, f20, f21, f22, g23⟩ := hI
      gi_wp2
      exact ⟨_, _, _, _, _, _, _, _, _, _, _, _, _, _, _, _, _, _, _, _, _, _, _, _, rfl, hG, (fun h => f0.out (or_ne h (by decide))), (fun h => f1.out (or_ne h (by decide))), (fun h => f2.out (or_ne h (by decide))), (fun h => f3.out (or_ne h (by decide))), (fun h => f4.out (or_ne h (by decide))), (fun h => f5.out (or_ne h (by decide))), (fun h => f6.out (or_ne h (by decide))), (fun h => f7.out (or_ne h (by decide))), (fun h => f8.out (or_ne h (by decide))), (fun h => f9.out (or_ne h (by decide))), (fun h => f10.out (or_ne h (by decide))), (fun _ => rfl), (fun h => f12.out (or_ne h (by decide))), (fun h => f13.out (or_ne h (by decide))), (fun h => f14.out (or_ne h (by decide))), (fun h => f15.out (or_ne h (by decide))), (fun h => f16.out (or_ne h (by decide))), (fun h => f17.out (or_ne h (by decide))), (fun h => f18.out (or_ne h (by decide))), (fun h => f19.out (or_ne h (by decide))), (fun h => f20.out (or_ne h (by decide))), (fun h => f21.out (or_ne h (by decide))), (fun h => f22.out (or_ne h (by decide))), (fun h => by obtain ⟨B, x0, x1, x2, x3, q1, q2, q3, q4⟩ := g23.out (or_ne h (by decide)); exact ⟨B, x0, x1, x2, x3, q1, q2, q3, fun h => q4 (or_ne h (by decide))⟩)⟩
    · -- 12
      cases ho
      obtain ⟨u14, u79, u80, u81, u82, u83, u84, u85, u86, u87, u88, u89, u90, u91, u92, u93, u94, u95, u96, u97, u98, u99, u100, u101, rfl, hG, f0, f1, f2, f3, f4, f5, f6, f7, f8, f9, f10, f11, f12, f13, f14, f15, f16, f17, f18, f19, f20, f21, f22, g23⟩ := hI
      have e11 := f11.out (D 11 (by kernel_rfl))
      subst e11
      obtain ⟨p0, p1⟩ := (k5.gr hG).two
      gi_wp2
      exact ⟨_, _, _, _, _, _, _, _, _, _, _, _, _, _, _, _, _, _, _, _, _, _, _, _, rfl, hG, (fun h => f0.out (or_ne h (by decide))), (fun h => f1.out (or_ne h (by decide))), (fun h => f2.out (or_ne h (by decide))), (fun h => f3.out (or_ne h (by decide))), (fun h => f4.out (or_ne h (by decide))), (fun h => f5.out (or_ne h (by decide))), (fun h => f6.out (or_ne h (by decide))), (fun h => f7.out (or_ne h (by decide))), (fun h => f8.out (or_ne h (by decide))), (fun h => f9.out (or_ne h (by decide))), (fun h => f10.out (or_ne h (by decide))), (fun _ => rfl), (fun _ => rfl), (fun h => f13.out (or_ne h (by decide))), (fun h => f14.out (or_ne h (by decide))), (fun h => f15.out (or_ne h (by decide))), (fun h => f16.out (or_ne h (by decide))), (fun h => f17.out (or_ne h (by decide))), (fun h => f18.out (or_ne h (by decide))), (fun h => f19.out (or_ne h (by decide))), (fun h => f20.out (or_ne h (by decide))), (fun h => f21.out (or_ne h (by decide))), (fun h => f22.out (or_ne h (by decide))), (fun h => by obtain ⟨B, x0, x1, x2, x3, q1, q2, q3, q4⟩ := g23.out (or_ne h (by decide)); exact ⟨B, x0, x1, x2, x3, q1, q2, q3, fun h => q4 (or_ne h (by decide))⟩)⟩
    · -- 13
      cases ho
      obtain ⟨u14, u79, u80, u81, u82, u83, u84, u85, u86, u87, u88, u89, u90, u91, u92, u93, u94, u95, u96, u97, u98, u99, u100, u101, rfl, hG, f0, f1, f2, f3, f4, f5, f6, f7, f8, f9, f10, f11, f12, f13, f14, f15, f16, f17, f18, f19, f20, f21, f22, g23⟩ := hI
      gi_wp2
      exact ⟨_, _, _, _, _, _, _, _, _, _, _, _, _, _, _, _, _, _, _, _, _, _, _, _, rfl, hG, (fun h => f0.out (or_ne h (by decide))), (fun h => f1.out (or_ne h (by decide))), (fun h => f2.out (or_ne h (by decide))), (fun h => f3.out (or_ne h (by decide))), (fun h => f4.out (or_ne h (by decide))), (fun h => f5.out (or_ne h (by decide))), (fun h => f6.out (or_ne h (by decide))), (fun h => f7.out (or_ne h (by decide))), (fun h => f8.out (or_ne h (by decide))), (fun h => f9.out (or_ne h (by decide))), (fun h => f10.out (or_ne h (by decide))), (fun h => f11.out (or_ne h (by decide))), (fun h => f12.out (or_ne h (by decide))), (fun _ => rfl), (fun h => f14.out (or_ne h (by decide))), (fun h => f15.out (or_ne h (by decide))), (fun h => f16.out (or_ne h (by decide))), (fun h => f17.out (or_ne h (by decide))), (fun h => f18.out (or_ne h (by decide))), (fun h => f19.out (or_ne h (by decide))), (fun h => f20.out (or_ne h (by decide))), (fun h => f21.out (or_ne h (by decide))), (fun h => f22.out (or_ne h (by decide))), (fun h => by obtain ⟨B, x0, x1, x2, x3, q1, q2, q3, q4⟩ := g23.out (or_ne h (by decide)); exact ⟨B, x0, x1, x2, x3, q1, q2, q3, fun h => q4 (or_ne h (by decide))⟩)⟩
    · -- 14
      cases ho
      obtain ⟨u14, u79, u80, u81, u82, u83, u84, u85, u86, u87, u88, u89, u90, u91, u92, u93, u94, u95, u96, u97, u98, u99, u100, u101, rfl, hG, f0, f1, f2, f3, f4, f5, f6, f7, f8, f9, f10, f11, f12, f13, f14, f15, f16, f17, f18, f19, f20, f21, f22, g23⟩ := hI
      have e13 := f13.out (D 13 (by kernel_rfl))
      subst e13
      obtain ⟨q0, q1⟩ := (k6.gr hG).two
      gi_wp2
      exact ⟨_, _, _, _, _, _, _, _, _, _, _, _, _, _, _, _, _, _, _, _, _, _, _, _, rfl, hG, (fun h => f0.out (or_ne h (by decide))), (fun h => f1.out (or_ne h (by decide))), (fun h => f2.out (or_ne h (by decide))), (fun h => f3.out (or_ne h (by decide))), (fun h => f4.out (or_ne h (by decide))), (fun h => f5.out (or_ne h (by decide))), (fun h => f6.out (or_ne h (by decide))), (fun h => f7.out (or_ne h (by decide))), (fun h => f8.out (or_ne h (by decide))), (fun h => f9.out (or_ne h (by decide))), (fun h => f10.out (or_ne h (by decide))), (fun h => f11.out (or_ne h (by decide))), (fun h => f12.out (or_ne h (by decide))), (fun _ => rfl), (fun _ => rfl), (fun h => f15.out (or_ne h (by decide))), (fun h => f16.out (or_ne h (by decide))), (fun h => f17.out (or_ne h (by decide))), (fun h => f18.out (or_ne h (by decide))), (fun h => f19.out (or_ne h (by decide))), (fun h => f20.out (or_ne h (by decide))), (fun h => f21.out (or_ne h (by decide))), (fun h => f22.out (or_ne h (by decide))), (fun h => by obtain ⟨B, x0, x1, x2, x3, q1, q2, q3, q4⟩ := g23.out (or_ne h (by decide)); exact ⟨B, x0, x1, x2, x3, q1, q2, q3, fun h => q4 (or_ne h (by decide))⟩)⟩
    · -- 15
      cases ho
      obtain ⟨u14, u79, u80, u81, u82, u83, u84, u85, u86, u87, u88, u89, u90, u91, u92, u93, u94, u95, u96, u97, u98, u99, u100, u101, rfl, hG, f0, f1, f2, f3, f4, f5, f6, f7, f8, f9, f10, f11, f12, f13, f14, f15, f16, f17, f18, f19, f20, f21, f22, g23⟩ := hI
      have e12 := f12.out (D 12 (by kernel_rfl))
      subst e12
      have e14 := f14.out (D 14 (by kernel_rfl))
      subst e14
      have X := HX.out.2.2.1
      gi_wp2
      exact ⟨_, _, _, _, _, _, _, _, _, _, _, _, _, _, _, _, _, _, _, _, _, _, _, _, rfl, hG, (fun h => f0.out (or_ne h (by decide))), (fun h => f1.out (or_ne h (by decide))), (fun h => f2.out (or_ne h (by decide))), (fun h => f3.out (or_ne h (by decide))), (fun h => f4.out (or_ne h (by decide))), (fun h => f5.out (or_ne h (by decide))), (fun h => f6.out (or_ne h (by decide))), (fun h => f7.out (or_ne h (by decide))), (fun h => f8.out (or_ne h (by decide))), (fun h => f9.out (or_ne h (by decide))), (fun h => f10.out (or_ne h (by decide))), (fun h => f11.out (or_ne h (by decide))), (fun _ => rfl), (fun h => f13.out (or_ne h (by decide))), (fun _ => rfl), (fun _ => by first | rfl | (rw [X]; try rfl)), (fun h => f16.out (or_ne h (by decide))), (fun h => f17.out (or_ne h (by decide))), (fun h => f18.out (or_ne h (by decide))), (fun h => f19.out (or_ne h (by decide))), (fun h => f20.out (or_ne h (by decide))), (fun h => f21.out (or_ne h (by decide))), (fun h => f22.out (or_ne h (by decide))), (fun h => by obtain ⟨B, x0, x1, x2, x3, q1, q2, q3, q4⟩ := g23.out (or_ne h (by decide)); exact ⟨B, x0, x1, x2, x3, q1, q2, q3, fun h => q4 (or_ne h (by decide))⟩)⟩
    · -- 16
      cases ho
      obtain ⟨u14, u79, u80, u81, u82, u83, u84, u85, u86, u87, u88, u89, u90, u91, u92, u93, u94, u95, u96, u97, u98, u99, u100, u101, rfl, hG, f0, f1, f2, f3, f4, f5, f6, f7, f8, f9, f10, f11, f12, f13, f14, f15, f16, f17, f18, f19, f20, f21, f22, g23⟩ := hI
      gi_wp2
      exact ⟨_, _, _, _, _, _, _, _, _, _, _, _, _, _, _, _, _, _, _, _, _, _, _, _, rfl, hG, (fun h => f0.out (or_ne h (by decide))), (fun h => f1.out (or_ne h (by decide))), (fun h => f2.out (or_ne h (by decide))), (fun h => f3.out (or_ne h (by decide))), (fun h => f4.out (or_ne h (by decide))), (fun h => f5.out (or_ne h (by decide))), (fun h => f6.out (or_ne h (by decide))), (fun h => f7.out (or_ne h (by decide))), (fun h => f8.out (or_ne h (by decide))), (fun h => f9.out (or_ne h (by decide))), (fun h => f10.out (or_ne h (by decide))), (fun h => f11.out (or_ne h (by decide))), (fun h => f12.out (or_ne h (by decide))), (fun h => f13.out (or_ne h (by decide))), (fun h => f14.out (or_ne h (by decide))), (fun h => f15.out (or_ne h (by decide))), (fun _ => rfl), (fun h => f17.out (or_ne h (by decide))), (fun h => f18.out (or_ne h (by decide))), (fun h => f19.out (or_ne h (by decide))), (fun h => f20.out (or_ne h (by decide))), (fun h => f21.out (or_ne h (by decide))), (fun h => f22.out (or_ne h (by decide))), (fun h => by obtain ⟨B, x0, x1, x2, x3, q1, q2, q3, q4⟩ := g23.out (or_ne h (by decide)); exact ⟨B, x0, x1, x2, x3, q1, q2, q3, fun h => q4 (or_ne h (by decide))⟩)⟩
    · -- 17
      cases ho
      obtain ⟨u14, u79, u80, u81, u82, u83, u84, u85, u86, u87, u88, u89, u90, u91, u92, u93, u94, u95, u96, u97, u98, u99, u100, u101, rfl, hG, f0, f1, f2, f3, f4, f5, f6, f7, f8, f9, f10, f11, f12, f13, f14, f15, f16, f17, f18, f19, f20, f21, f22, g23⟩ := hI
      have e16 := f16.out (D 16 (by kernel_rfl))
      subst e16
      obtain ⟨p0, p1⟩ := (k5.gr hG).two
      gi_wp2
      exact ⟨_, _, _, _, _, _, _, _, _, _, _, _, _, _, _, _, _, _, _, _, _, _, _, _, rfl, hG, (fun h => f0.out (or_ne h (by decide))), (fun h => f1.out (or_ne h (by decide))), (fun h => f2.out (or_ne h (by decide))), (fun h => f3.out (or_ne h (by decide))), (fun h => f4.out (or_ne h (by decide))), (fun h => f5.out (or_ne h (by decide))), (fun h => f6.out (or_ne h (by decide))), (fun h => f7.out (or_ne h (by decide))), (fun h => f8.out (or_ne h (by decide))), (fun h => f9.out (or_ne h (by decide))), (fun h => f10.out (or_ne h (by decide))), (fun h => f11.out (or_ne h (by decide))), (fun h => f12.out (or_ne h (by decide))), (fun h => f13.out (or_ne h (by decide))), (fun h => f14.out (or_ne h (by decide))), (fun h => f15.out (or_ne h (by decide))), (fun _ => rfl), (fun _ => rfl), (fun h => f18.out (or_ne h (by decide))), (fun h => f19.out (or_ne h (by decide))), (fun h => f20.out (or_ne h (by decide))), (fun h => f21.out (or_ne h (by decide))), (fun h => f22.out (or_ne h (by decide))), (fun h => by obtain ⟨B, x0, x1, x2, x3, q1, q2, q3, q4⟩ := g23.out (or_ne h (by decide)); exact ⟨B, x0, x1, x2, x3, q1, q2, q3, fun h => q4 (or_ne h (by decide))⟩)⟩
    · -- 18
      cases ho
      obtain ⟨u14, u79, u80, u81, u82, u83, u84, u85, u86, u87, u88, u89, u90, u91, u92, u93, u94, u95, u96, u97, u98, u99, u100, u101, rfl, hG, f0, f1, f2, f3, f4, f5, f6, f7, f8, f9, f10, f11, f12, f13, f14, f15, f16, f17, f18, f19, f20, f21, f22, g23⟩ := hI
      gi_wp2
      exact ⟨_, _, _, _, _, _, _, _, _, _, _, _, _, _, _, _, _, _, _, _, _, _, _, _, rfl, hG, (fun h => f0.out (or_ne h (by decide))), (fun h => f1.out (or_ne h (by decide))), (fun h => f2.out (or_ne h (by decide))), (fun h => f3.out (or_ne h (by decide))), (fun h => f4.out (or_ne h (by decide))), (fun h => f5.out (or_ne h (by decide))), (fun h => f6.out (or_ne h (by decide))), (fun h => f7.out (or_ne h (by decide))), (fun h => f8.out (or_ne h (by decide))), (fun h => f9.out (or_ne h (by decide))), (fun h => f10.out (or_ne h (by decide))), (fun h => f11.out (or_ne h (by decide))), (fun h => f12.out (or_ne h (by decide))), (fun h => f13.out (or_ne h (by decide))), (fun h => f14.out (or_ne h (by decide))), (fun h => f15.out (or_ne h (by decide))), (fun h => f16.out (or_ne h (by decide))), (fun h => f17.out (or_ne h (by decide))), (fun _ => rfl), (fun h => f19.out (or_ne h (by decide))), (fun h => f20.out (or_ne h (by decide))), (fun h => f21.out (or_ne h (by decide))), (fun h => f22.out (or_ne h (by decide))), (fun h => by obtain ⟨B, x0, x1, x2, x3, q1, q2, q3, q4⟩ := g23.out (or_ne h (by decide)); exact ⟨B, x0, x1, x2, x3, q1, q2, q3, fun h => q4 (or_ne h (by decide))⟩)⟩
    · -- 19
      cases ho
      obtain ⟨u14, u79, u80, u81, u82, u83, u84, u85, u86, u87, u88, u89, u90, u91, u92, u93, u94, u95, u96, u97, u98, u99, u100, u101, rfl, hG, f0, f1, f2, f3, f4, f5, f6, f7, f8, f9, f10, f11, f12, f13, f14, f15, f16, f17, f18, f19, f20, f21, f22, g23⟩ := hI
      have e18 := f18.out (D 18 (by kernel_rfl))
      subst e18
      obtain ⟨q0, q1⟩ := (k6.gr hG).two
      gi_wp2
      exact ⟨_, _, _, _, _, _, _, _, _, _, _, _, _, _, _, _, _, _, _, _, _, _, _, _, rfl, hG, (fun h => f0.out (or_ne h (by decide))), (fun h => f1.out (or_ne h (by decide))), (fun h => f2.out (or_ne h (by decide))), (fun h => f3.out (or_ne h (by decide))), (fun h => f4.out (or_ne h (by decide))), (fun h => f5.out (or_ne h (by decide))), (fun h => f6.out (or_ne h (by decide))), (fun h => f7.out (or_ne h (by decide))), (fun h => f8.out (or_ne h (by decide))), (fun h => f9.out (or_ne h (by decide))), (fun h => f10.out (or_ne h (by decide))), (fun h => f11.out (or_ne h (by decide))), (fun h => f12.out (or_ne h (by decide))), (fun h => f13.out (or_ne h (by decide))), (fun h => f14.out (or_ne h (by decide))), (fun h => f15.out (or_ne h (by decide))), (fun h => f16.out (or_ne h (by decide))), (fun h => f17.out (or_ne h (by decide))), (fun _ => rfl), (fun _ => rfl), (fun h => f20.out (or_ne h (by decide))), (fun h => f21.out (or_ne h (by decide))), (fun h => f22.out (or_ne h (by decide))), (fun h => by obtain ⟨B, x0, x1, x2, x3, q1, q2, q3, q4⟩ := g23.out (or_ne h (by decide)); exact ⟨B, x0, x1, x2, x3, q1, q2, q3, fun h => q4 (or_ne h (by decide))⟩)⟩
    · -- 20
      cases ho
      obtain ⟨u14, u79, u80, u81, u82, u83, u84, u85, u86, u87, u88, u89, u90, u91, u92, u93, u94, u95, u96, u97, u98, u99, u100, u101, rfl, hG, f0, f1, f2, f3, f4, f5, f6, f7, f8, f9, f10, f11, f12, f13, f14, f15, f16, f17, f18, f19, f20, f21, f22, g23⟩ := hI
      have e17 := f17.out (D 17 (by kernel_rfl))
      subst e17
      have e19 := f19.out (D 19 (by kernel_rfl))
      subst e19
      have X := HX.out.2.2.2
      gi_wp2
      exact ⟨_, _, _, _, _, _, _, _, _, _, _, _, _, _, _, _, _, _, _, _, _, _, _, _, rfl, hG, (fun h => f0.out (or_ne h (by decide))), (fun h => f1.out (or_ne h (by decide))), (fun h => f2.out (or_ne h (by decide))), (fun h => f3.out (or_ne h (by decide))), (fun h => f4.out (or_ne h (by decide))), (fun h => f5.out (or_ne h (by decide))), (fun h => f6.out (or_ne h (by decide))), (fun h => f7.out (or_ne h (by decide))), (fun h => f8.out (or_ne h (by decide))), (fun h => f9.out (or_ne h (by decide))), (fun h => f10.out (or_ne h (by decide))), (fun h => f11.out (or_ne h (by decide))), (fun h => f12.out (or_ne h (by decide))), (fun h => f13.out (or_ne h (by decide))), (fun h => f14.out (or_ne h (by decide))), (fun h => f15.out (or_ne h (by decide))), (fun h => f16.out (or_ne h (by decide))), (fun _ => rfl), (fun h => f18.out (or_ne h (by decide))), (fun _ => rfl), (fun _ => by first | rfl | (rw [X]; try rfl)), (fun h => f21.out (or_ne h (by decide))), (fun h => f22.out (or_ne h (by decide))), (fun h => by obtain ⟨B, x0, x1, x2, x3, q1, q2, q3, q4⟩ := g23.out (or_ne h (by decide)); exact ⟨B, x0, x1, x2, x3, q1, q2, q3, fun h => q4 (or_ne h (by decide))⟩)⟩
    · -- 21
      cases ho
      obtain ⟨u14, u79, u80, u81, u82, u83, u84, u85, u86, u87, u88, u89, u90, u91, u92, u93, u94, u95, u96, u97, u98, u99, u100, u101, rfl, hG, f0, f1, f2, f3, f4, f5, f6, f7, f8, f9, f10, f11, f12, f13, f14, f15, f16, f17, f18, f19, f20, f21, f22, g23⟩ := hI
      have e15 := f15.out (D 15 (by kernel_rfl))
      subst e15
      have e20 := f20.out (D 20 (by kernel_rfl))
      subst e20
      gi_wp2_with (refine (callsIn_wide.2 (at_any gx gy _)).mono ?_; rintro e w1 ⟨rfl, h1⟩)
      have hG' := hG.trans h1
      exact ⟨_, _, _, _, _, _, _, _, _, _, _, _, _, _, _, _, _, _, _, _, _, _, _, _, rfl, hG', (fun h => f0.out (or_ne h (by decide))), (fun h => f1.out (or_ne h (by decide))), (fun h => f2.out (or_ne h (by decide))), (fun h => f3.out (or_ne h (by decide))), (fun h => f4.out (or_ne h (by decide))), (fun h => f5.out (or_ne h (by decide))), (fun h => f6.out (or_ne h (by decide))), (fun h => f7.out (or_ne h (by decide))), (fun h => f8.out (or_ne h (by decide))), (fun h => f9.out (or_ne h (by decide))), (fun h => f10.out (or_ne h (by decide))), (fun h => f11.out (or_ne h (by decide))), (fun h => f12.out (or_ne h (by decide))), (fun h => f13.out (or_ne h (by decide))), (fun h => f14.out (or_ne h (by decide))), (fun _ => rfl), (fun h => f16.out (or_ne h (by decide))), (fun h => f17.out (or_ne h (by decide))), (fun h => f18.out (or_ne h (by decide))), (fun h => f19.out (or_ne h (by decide))), (fun _ => rfl), (fun _ => rfl), (fun h => f22.out (or_ne h (by decide))), (fun h => by obtain ⟨B, x0, x1, x2, x3, q1, q2, q3, q4⟩ := g23.out (or_ne h (by decide)); exact ⟨B, x0, x1, x2, x3, q1, q2, q3.gr h1, fun h => q4 (or_ne h (by decide))⟩)⟩
    · -- 22
      cases ho
      obtain ⟨u14, u79, u80, u81, u82, u83, u84, u85, u86, u87, u88, u89, u90, u91, u92, u93, u94, u95, u96, u97, u98, u99, u100, u101, rfl, hG, f0, f1, f2, f3, f4, f5, f6, f7, f8, f9, f10, f11, f12, f13, f14, f15, f16, f17, f18, f19, f20, f21, f22, g23⟩ := hI
      have e10 := f10.out (D 10 (by kernel_rfl))
      subst e10
      have e21 := f21.out (D 21 (by kernel_rfl))
      subst e21
      gi_wp2
      exact ⟨_, _, _, _, _, _, _, _, _, _, _, _, _, _, _, _, _, _, _, _, _, _, _, _, rfl, hG, (fun h => f0.out (or_ne h (by decide))), (fun h => f1.out (or_ne h (by decide))), (fun h => f2.out (or_ne h (by decide))), (fun h => f3.out (or_ne h (by decide))), (fun h => f4.out (or_ne h (by decide))), (fun h => f5.out (or_ne h (by decide))), (fun h => f6.out (or_ne h (by decide))), (fun h => f7.out (or_ne h (by decide))), (fun h => f8.out (or_ne h (by decide))), (fun h => f9.out (or_ne h (by decide))), (fun _ => rfl), (fun h => f11.out (or_ne h (by decide))), (fun h => f12.out (or_ne h (by decide))), (fun h => f13.out (or_ne h (by decide))), (fun h => f14.out (or_ne h (by decide))), (fun h => f15.out (or_ne h (by decide))), (fun h => f16.out (or_ne h (by decide))), (fun h => f17.out (or_ne h (by decide))), (fun h => f18.out (or_ne h (by decide))), (fun h => f19.out (or_ne h (by decide))), (fun h => f20.out (or_ne h (by decide))), (fun _ => rfl), (fun _ => rfl), (fun h => by obtain ⟨B, x0, x1, x2, x3, q1, q2, q3, q4⟩ := g23.out (or_ne h (by decide)); exact ⟨B, x0, x1, x2, x3, q1, q2, q3, fun h => q4 (or_ne h (by decide))⟩)⟩
    · -- 23
      cases ho
      obtain ⟨u14, u79, u80, u81, u82, u83, u84, u85, u86, u87, u88, u89, u90, u91, u92, u93, u94, u95, u96, u97, u98, u99, u100, u101, rfl, hG, f0, f1, f2, f3, f4, f5, f6, f7, f8, f9, f10, f11, f12, f13, f14, f15, f16, f17, f18, f19, f20, f21, f22, g23⟩ := hI
      gi_wp2
      have h1 := (Gr.refl wI).alloc (.cells #[Value.int .i32 0, Value.int .i32 0, Value.int .i32 0, Value.int .i32 0] 25)
      have hG' := hG.trans h1
      exact ⟨_, _, _, _, _, _, _, _, _, _, _, _, _, _, _, _, _, _, _, _, _, _, _, _, rfl, hG', (fun h => f0.out (or_ne h (by decide))), (fun h => f1.out (or_ne h (by decide))), (fun h => f2.out (or_ne h (by decide))), (fun h => f3.out (or_ne h (by decide))), (fun h => f4.out (or_ne h (by decide))), (fun h => f5.out (or_ne h (by decide))), (fun h => f6.out (or_ne h (by decide))), (fun h => f7.out (or_ne h (by decide))), (fun h => f8.out (or_ne h (by decide))), (fun h => f9.out (or_ne h (by decide))), (fun h => f10.out (or_ne h (by decide))), (fun h => f11.out (or_ne h (by decide))), (fun h => f12.out (or_ne h (by decide))), (fun h => f13.out (or_ne h (by decide))), (fun h => f14.out (or_ne h (by decide))), (fun h => f15.out (or_ne h (by decide))), (fun h => f16.out (or_ne h (by decide))), (fun h => f17.out (or_ne h (by decide))), (fun h => f18.out (or_ne h (by decide))), (fun h => f19.out (or_ne h (by decide))), (fun h => f20.out (or_ne h (by decide))), (fun h => f21.out (or_ne h (by decide))), (fun h => f22.out (or_ne h (by decide))), (fun _ => ⟨wI.heap.size, _, _, _, _, rfl, hG.size, Bk.new wI 25 _, fun h => absurd (hdn 24 _ rfl (or_ne h (by decide)) 23 (by kernel_rfl)) hnd⟩)⟩
    · -- 24
      cases ho
      obtain ⟨u14, u79, u80, u81, u82, u83, u84, u85, u86, u87, u88, u89, u90, u91, u92, u93, u94, u95, u96, u97, u98, u99, u100, u101, rfl, hG, f0, f1, f2, f3, f4, f5, f6, f7, f8, f9, f10, f11, f12, f13, f14, f15, f16, f17, f18, f19, f20, f21, f22, g23⟩ := hI
      have e22 := f22.out (D 22 (by kernel_rfl))
      subst e22
      obtain ⟨B, x0, x1, x2, x3, e23, hB, k23, c23⟩ := g23.out (D 23 (by kernel_rfl))
      subst e23
      clear c23
      have z := fun j => k23.frozen j
      have z0 := z 0
      have y0 := k23.at 0
      have z1 := z 1
      have y1 := k23.at 1
      have z2 := z 2
      have y2 := k23.at 2
      have z3 := z 3
      have y3 := k23.at 3
      simp only [List.getElem?_cons_zero, List.getElem?_cons_succ] at y0 y1 y2 y3
      clear z
      gi_wp2
      have hG' := ((((hG.setCell (p := ⟨B, 0, none⟩) hB (Value.int .i32 nx)).setCell (p := ⟨B, 1, none⟩) hB (Value.int .i32 ny)).setCell (p := ⟨B, 2, none⟩) hB (Value.int .i32 gx)).setCell (p := ⟨B, 3, none⟩) hB (Value.int .i32 gy))
      exact ⟨_, _, _, _, _, _, _, _, _, _, _, _, _, _, _, _, _, _, _, _, _, _, _, _, rfl, hG', (fun h => f0.out (or_ne h (by decide))), (fun h => f1.out (or_ne h (by decide))), (fun h => f2.out (or_ne h (by decide))), (fun h => f3.out (or_ne h (by decide))), (fun h => f4.out (or_ne h (by decide))), (fun h => f5.out (or_ne h (by decide))), (fun h => f6.out (or_ne h (by decide))), (fun h => f7.out (or_ne h (by decide))), (fun h => f8.out (or_ne h (by decide))), (fun h => f9.out (or_ne h (by decide))), (fun h => f10.out (or_ne h (by decide))), (fun h => f11.out (or_ne h (by decide))), (fun h => f12.out (or_ne h (by decide))), (fun h => f13.out (or_ne h (by decide))), (fun h => f14.out (or_ne h (by decide))), (fun h => f15.out (or_ne h (by decide))), (fun h => f16.out (or_ne h (by decide))), (fun h => f17.out (or_ne h (by decide))), (fun h => f18.out (or_ne h (by decide))), (fun h => f19.out (or_ne h (by decide))), (fun h => f20.out (or_ne h (by decide))), (fun h => f21.out (or_ne h (by decide))), (fun _ => rfl), (fun _ => ⟨B, _, _, _, _, rfl, hB, ((((k23.set 0 _).set 1 _).set 2 _).set 3 _), fun _ => ⟨rfl, rfl, rfl, rfl⟩⟩)⟩
  case hend =>
    intro d' a' w' hall hI
    obtain ⟨u14, u79, u80, u81, u82, u83, u84, u85, u86, u87, u88, u89, u90, u91, u92, u93, u94, u95, u96, u97, u98, u99, u100, u101, rfl, hG, f0, f1, f2, f3, f4, f5, f6, f7, f8, f9, f10, f11, f12, f13, f14, f15, f16, f17, f18, f19, f20, f21, f22, g23⟩ := hI
    simp only [List.length_cons, List.length_nil] at hall
    obtain ⟨B, x0, x1, x2, x3, rfl, hB, k14, c⟩ := g23.out (hall 23 (by decide))
    obtain ⟨rfl, rfl, rfl, rfl⟩ := c (hall 24 (by decide))
    clear hall g23 c f0 f1 f2 f3 f4 f5 f6 f7 f8 f9 f10 f11 f12 f13 f14 f15 f16 f17 f18 f19 f20 f21 f22 HX
    replace k5 := k5.gr hG
    replace k6 := k6.gr hG
    replace k8 := k8.gr hG
    replace hb := hb.trans (hG.below.mono hb.size)
    clear hG hB
    obtain ⟨p0, p1, p2, p3⟩ := k14.four
    go_upto_region 13 with (first
      | (go_at_call 13; refine (CA.out _).mono ?_; rintro e w1 ⟨rfl, c1, c2, g1⟩; clear CA)
      | (go_at_call 16; refine (FC.out _ _ _ c2 c1).mono ?_; rintro e w2 ⟨v2, rfl, o2, h2⟩; clear FC))
    obtain ⟨ao, cap, rfl, P2, _⟩ := Pts.of_own o2
    have gB : Below w'.heap.size w' w2 := g1.below.trans (h2.mono g1.size)
    replace k5 := k5.below gB
    replace k6 := k6.below gB
    replace k8 := k8.below gB
    replace k14 := k14.below gB
    replace hb := hb.trans (gB.mono hb.size)
    clear p0 p1 p2 p3 c1 c2 g1 h2 o2 gB
    obtain ⟨p0, p1, p2, p3⟩ := k14.four
    obtain ⟨a0, a1⟩ := k8.two
    go_cut [133] (fun v wd => v = .bool false ∧ Hid (Gr w2 wd))
    case first =>
      rcases HM.out with ⟨m1, m2, m3⟩ | ⟨m1, m2⟩
      · have I2 : Hid (∀ ao ca w, Pts w ao M → Calls Try.prog 28 #[.slice ao M.length ca, pt ax ay] w fun e w' => e = .returned (.bool true) ∧ Gr w w') := fun ao ca w h => by
          have := I1.out ao ca w h
          rw [decide_eq_true m3] at this
          exact this
        clear I1 HM m3
        have m1' : (M.length : Int) ≤ 400 := by omega
        subst m2
        go_wp2_with (first
          | (go_at_call 11; refine (N1.out _).mono ?_; rintro e w3 ⟨rfl, g3⟩; clear N1; replace a0 := below_cell a0 g3.below; replace a1 := below_cell a1 g3.below; replace P2 := P2.mono g3.below)
          | (go_at_call 28; refine (I2.out _ _ _ P2).mono ?_; rintro e w4 ⟨rfl, g4⟩; clear I2))
        go_meet
        case rel => exact ⟨rfl, g3.trans g4⟩
      · have m1' : ¬ (M.length : Int) ≤ 400 := by omega
        have m2' : ¬ cn ≤ 400 := by omega
        have m3' : (M.length : Int) > 400 := by omega
        clear I1 HM m1 m2
        go_wp2_with (go_at_call 11; refine (N1.out _).mono ?_; rintro e w3 ⟨rfl, g3⟩; clear N1)
        go_meet
        case rel => exact ⟨congrArg Value.bool (decide_eq_false (by omega)), g3⟩
    obtain ⟨rfl, hcut⟩ := hcut
    have hG := hcut.out
    clear hcut HM I1 N1 P2 p0 p1 p2 p3 a0 a1 k8 k14
    replace k5 := k5.gr hG
    replace k6 := k6.gr hG
    replace hb := hb.trans (hG.below.mono hb.size)
    clear hG
    obtain ⟨p0, p1⟩ := k5.two
    obtain ⟨q0, q1⟩ := k6.two
    go_wp2_with (first
      | (go_at_call 29; refine (SW.out _).mono ?_; rintro e w5 ⟨rfl, h5⟩; clear SW)
      | (go_at_call 17; refine (LV.out _).mono ?_; rintro e w7 ⟨rfl, h7⟩))
    go_ret
    have hb5 := hb.trans (h5.mono hb.size)
    exact ⟨rfl, hb5.trans (h7.mono hb5.size)⟩

end Go.Proofs.Ytmoddfikhipagaa
