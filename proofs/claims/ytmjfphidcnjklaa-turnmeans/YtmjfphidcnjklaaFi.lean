/- Contracts of way and Fit. -/
import Derived.Test.YtmjfphidcnjklaaM1
set_option linter.unusedSimpArgs false
namespace Go.Proofs.Ytmjfphidcnjklaa
open Go.RowKit Go.Sort Ieee

theorem wrap64_dif {x y : Int} (h : in32 x) (k : in32 y) : wrap64 (x - y) = x - y := by unfold in32 at *; unfold wrap64; omega
theorem w64_dif {x y : Int} (h : in32 x) (k : in32 y) : IntKind.i64.wrap (x - y) = x - y := by
  unfold in32 at *
  simp [IntKind.wrap, IntKind.signed, IntKind.bits]
  omega
set_option maxRecDepth 20000 in
set_option maxHeartbeats 1600000 in
theorem way_any {px py qx qy : Int} (h1 : in32 px) (h2 : in32 py) (h3 : in32 qx) (h4 : in32 qy) (w : World) :
    Calls Try.prog 58 #[ptV px py, ptV qx qy] w fun e w' => e = .returned (.tuple #[.int .i64 (qx - px), .int .i64 (qy - py)]) ∧ Gr w w' := by
  have e1 := wrap64_in h1
  have e2 := wrap64_in h2
  have e3 := wrap64_in h3
  have e4 := wrap64_in h4
  have e5 := wrap64_dif h3 h1
  have e6 := wrap64_dif h4 h2
  have f1 := w64_in h1
  have f2 := w64_in h2
  have f3 := w64_in h3
  have f4 := w64_in h4
  have f5 := w64_dif h3 h1
  have f6 := w64_dif h4 h2
  obtain ⟨kM, kN, g⟩ := two_new w 57 57 #[.int .i32 px, .int .i32 py] #[.int .i32 qx, .int .i32 qy]
  replace g := hid' g
  clear h1 h2 h3 h4
  go_enter Try.func58, Try.ntmps58
  go_wp2_with fail
  generalize (w.alloc (.cells #[.int .i32 px, .int .i32 py] 57)).alloc (.cells #[.int .i32 qx, .int .i32 qy] 57) = W at *
  obtain ⟨m0, m1⟩ := kM.two_gr
  obtain ⟨n0, n1⟩ := kN.two_gr
  go_region_held3 (Gr W)
    (first
      | exact (Gr.refl _).drew
      | assumption)
    (fail)
  rename_i hH
  go_wp2
  go_ret2
  exact ⟨rfl, g.out.drew⟩
/-- A difference of complex numbers as a function of the world. -/
theorem cx_sub (a b c d : Nat) (w : World) : ∃ x : Nat × Nat × Nat, (binOp .sub 26 (.complex .f64 a b) (.complex .f64 c d)).run Try.prog w = .ok (.complex .f64 x.1 x.2.1) (w.drewN x.2.2) ∧ arR .sub a c x.1 ∧ arR .sub b d x.2.1 := by
  obtain ⟨r, s, n, h⟩ := run_cx .sub (.inr rfl) a b c d w
  exact ⟨⟨r, s, n⟩, h⟩
theorem cx_sfun : ∃ X : Nat → Nat → Nat → Nat → World → Nat × Nat × Nat,
    (∀ a b c d w, (binOp .sub 26 (.complex .f64 a b) (.complex .f64 c d)).run Try.prog w = .ok (.complex .f64 (X a b c d w).1 (X a b c d w).2.1) (w.drewN (X a b c d w).2.2)) ∧
    ∀ (a b c d A B C D : Nat) (w : World), V a A → V b B → V c C → V d D → V (X a b c d w).1 (fo .sub A C) ∧ V (X a b c d w).2.1 (fo .sub B D) :=
  ⟨fun a b c d w => Classical.choose (cx_sub a b c d w), fun a b c d w => (Classical.choose_spec (cx_sub a b c d w)).1,
    fun _ _ _ _ _ _ _ _ w ha hb hc hd => ⟨V.fo (Classical.choose_spec (cx_sub _ _ _ _ w)).2.1 ha hc, V.fo (Classical.choose_spec (cx_sub _ _ _ _ w)).2.2 hb hd⟩⟩
/-- A whole number as a word. -/
abbrev fi (n : Int) : Nat := floatOfInt .f64 n
/-- The parts of what Fit tells. -/
def ftA (px py qx qy rx ry sx sy : Int) : Nat := byRe (fi (sx - rx)) (fi (sy - ry)) (fi (qx - px)) (fi (qy - py))
def ftB (px py qx qy rx ry sx sy : Int) : Nat := byIm (fi (sx - rx)) (fi (sy - ry)) (fi (qx - px)) (fi (qy - py))
def ftC (px py qx qy rx ry sx sy : Int) : Nat := fo .sub (fi rx) (tRe (ftA px py qx qy rx ry sx sy) (ftB px py qx qy rx ry sx sy) (fi px) (fi py))
def ftD (px py qx qy rx ry sx sy : Int) : Nat := fo .sub (fi ry) (tIm (ftA px py qx qy rx ry sx sy) (ftB px py qx qy rx ry sx sy) (fi px) (fi py))
/-- Five blocks of the call's own. -/
theorem five_new (w : World) (t1 t2 t3 t4 t5 : Nat) (A B C D E : Array Value) :
    let W := ((((w.alloc (.cells A t1)).alloc (.cells B t2)).alloc (.cells C t3)).alloc (.cells D t4)).alloc (.cells E t5)
    Bl W w.heap.size t1 A ∧ Bl W (w.heap.size + 1) t2 B ∧ Bl W (w.heap.size + 1 + 1) t3 C ∧ Bl W (w.heap.size + 1 + 1 + 1) t4 D ∧ Bl W (w.heap.size + 1 + 1 + 1 + 1) t5 E ∧ Gr w W := by
  obtain ⟨k1, k2, k3, g⟩ := three_new w t1 t2 t3 A B C
  have k4 := (Bl.new (((w.alloc (.cells A t1)).alloc (.cells B t2)).alloc (.cells C t3)) t4 D).alloc (.cells E t5)
  have k5 := Bl.new ((((w.alloc (.cells A t1)).alloc (.cells B t2)).alloc (.cells C t3)).alloc (.cells D t4)) t5 E
  refine ⟨(k1.alloc _).alloc _, (k2.alloc _).alloc _, (k3.alloc _).alloc _, ?_, ?_, (g.alloc _).alloc _⟩
  · simpa using k4
  · simpa using k5
set_option maxRecDepth 20000 in
set_option maxHeartbeats 3200000 in
theorem fit_no {px py rx ry sx sy : Int} (w : World) :
    Calls Try.prog 27 #[ptV px py, ptV px py, ptV rx ry, ptV sx sy] w fun e w' => e = .returned (.tuple #[simV 0 0 0 0, .int .i64 80]) ∧ Gr w w' := by
  have sc := run_store_c
  go_enter Try.func27, Try.ntmps27
  go_wp2
  refine bodyPost_ret (v := .tuple #[simV 0 0 0 0, .int .i64 80]) (by simp [results, Try.results27, go_sem]) rfl ⟨rfl, ?_⟩
  repeat (first | exact Gr.refl _ | refine Gr.setCell ?_ (by simp only []; omega) _ | refine Gr.drewN ?_ _ | refine Gr.alloc ?_ _)
set_option maxRecDepth 20000 in
set_option maxHeartbeats 3200000 in
theorem fit_yes1 {px py qx qy rx ry sx sy : Int} (h1 : in32 px) (h2 : in32 py) (h3 : in32 qx) (h4 : in32 qy) (h5 : in32 rx) (h6 : in32 ry) (h7 : in32 sx) (h8 : in32 sy) (hb1 : (px == qx) = false) (w : World) :
    Calls Try.prog 27 #[ptV px py, ptV qx qy, ptV rx ry, ptV sx sy] w fun e w' => ∃ a b c d, e = .returned (.tuple #[simV a b c d, .int .i64 0]) ∧ V a (ftA px py qx qy rx ry sx sy) ∧ V b (ftB px py qx qy rx ry sx sy) ∧ V c (ftC px py qx qy rx ry sx sy) ∧ V d (ftD px py qx qy rx ry sx sy) ∧ Gr w w' := by
  obtain ⟨kP, kQ, kr, kS, kR, g⟩ := five_new w 57 57 57 57 28 #[.int .i32 px, .int .i32 py] #[.int .i32 qx, .int .i32 qy] #[.int .i32 rx, .int .i32 ry] #[.int .i32 sx, .int .i32 sy] #[.complex .f64 0 0, .complex .f64 0 0]
  replace g := hid' g
  obtain ⟨X5, E, EV⟩ := cx_sfun
  replace EV := hid' EV
  have WR := fun w => hid' (way_any h5 h6 h7 h8 w)
  have WP := fun w => hid' (way_any h1 h2 h3 h4 w)
  have BY := fun w => hid' (by_any (foi_V (sx - rx)) (foi_V (sy - ry)) (foi_V (qx - px)) (foi_V (qy - py)) w)
  have PR := fun w => hid' (place_any h5 h6 w)
  have PP := fun w => hid' (place_any h1 h2 w)
  have HC : Hid (ftC px py qx qy rx ry sx sy = fo .sub (fi rx) (tRe (ftA px py qx qy rx ry sx sy) (ftB px py qx qy rx ry sx sy) (fi px) (fi py)) ∧ ftD px py qx qy rx ry sx sy = fo .sub (fi ry) (tIm (ftA px py qx qy rx ry sx sy) (ftB px py qx qy rx ry sx sy) (fi px) (fi py))) := ⟨rfl, rfl⟩
  have HA : Hid (ftA px py qx qy rx ry sx sy = byRe (fi (sx - rx)) (fi (sy - ry)) (fi (qx - px)) (fi (qy - py)) ∧ ftB px py qx qy rx ry sx sy = byIm (fi (sx - rx)) (fi (sy - ry)) (fi (qx - px)) (fi (qy - py))) := ⟨rfl, rfl⟩
  rw [← HA.out.1, ← HA.out.2] at BY
  generalize ftA px py qx qy rx ry sx sy = AF at *
  generalize ftB px py qx qy rx ry sx sy = BF at *
  generalize ftC px py qx qy rx ry sx sy = CF at *
  generalize ftD px py qx qy rx ry sx sy = DF at *
  have sc := run_store_c
  clear h1 h2 h3 h4 h5 h6 h7 h8 HA
  go_enter Try.func27, Try.ntmps27
  go_wp2_with fail
  generalize ((((w.alloc (.cells #[.int .i32 px, .int .i32 py] 57)).alloc (.cells #[.int .i32 qx, .int .i32 qy] 57)).alloc (.cells #[.int .i32 rx, .int .i32 ry] 57)).alloc (.cells #[.int .i32 sx, .int .i32 sy] 57)).alloc (.cells #[.complex .f64 0 0, .complex .f64 0 0] 28) = W at *
  obtain ⟨c0, c1⟩ := kP.two_gr
  obtain ⟨c2, c3⟩ := kQ.two_gr
  obtain ⟨c4, c5⟩ := kr.two_gr
  obtain ⟨c6, c7⟩ := kS.two_gr
  go_region_held3 (Gr W)
    (first
      | exact (Gr.refl _).drew
      | exact Gr.trans (by assumption) (by assumption)
      | assumption)
    (first
      | (go_at_call_of 58 rx; refine (WR _).out.mono ?_; rintro e w1 ⟨rfl, g1⟩)
      | (go_at_call_of 58 px; refine (WP _).out.mono ?_; rintro e w2 ⟨rfl, g2⟩)
      | (go_at_call 57; refine (number_any _ _ _).mono ?_; rintro e w3 ⟨rfl, rfl⟩)
      | (go_at_call 47; refine (BY _).out.mono ?_; rintro e w4 ⟨a, b, rfl, h1, h2, g4⟩))
  rename_i hH
  replace kP := kP.gr hH
  replace kr := kr.gr hH
  replace kR := kR.gr hH
  replace g := hid' (g.out.trans hH)
  clear hH g1 g2 g4 WR WP BY c0 c1 c2 c3 c4 c5 c6 c7 kQ kS
  have TM := fun w => hid' (times_any h1 h2 (foi_V px) (foi_V py) w)
  go_wp2_with fail
  obtain ⟨p0, p1, _, _⟩ := kP.two
  obtain ⟨r0, r1, _, _⟩ := kr.two
  refine wp_region_held_drew (S := S4 ⟨w.heap.size, 0, none⟩ ⟨w.heap.size, 1, none⟩ ⟨w.heap.size + 1 + 1, 0, none⟩ ⟨w.heap.size + 1 + 1, 1, none⟩ (.int .i32 px) (.int .i32 py) (.int .i32 rx) (.int .i32 ry) w) (by kernel_rfl) ⟨p0, p1, r0, r1, g.out.drew⟩ (fun hHeld => ?_)
  refine wpAnyH_take (i := 0) (v := ?tv1) rfl (by kernel_rfl) (by kernel_rfl) (by kernel_rfl) (fun _ _ _ h => h) (Or.inl ⟨by rfl, ?ty1⟩) (by assumption) ?tr1
  case ty1 => (intro w hSw; (try dsimp only at hSw); go_simp <;> with_reducible rfl)
  try simp only [Act.put, List.getElem_toArray, List.getElem_cons_zero, List.getElem_cons_succ, List.setIfInBounds_toArray, List.set_cons_zero, List.set_cons_succ]
  refine wpAnyH_take (i := 1) (v := ?tv2) rfl (by kernel_rfl) (by kernel_rfl) (by kernel_rfl) (fun _ _ _ h => h) (Or.inl ⟨by rfl, ?ty2⟩) (by assumption) ?tr2
  case ty2 => (intro w hSw; (try dsimp only at hSw); go_simp <;> with_reducible rfl)
  try simp only [Act.put, List.getElem_toArray, List.getElem_cons_zero, List.getElem_cons_succ, List.setIfInBounds_toArray, List.set_cons_zero, List.set_cons_succ]
  refine wpAnyH_take (i := 3) (v := ?tv3) rfl (by kernel_rfl) (by kernel_rfl) (by kernel_rfl) (fun _ _ _ h => h) (Or.inl ⟨by rfl, ?ty3⟩) (by assumption) ?tr3
  case ty3 => (intro w hSw; (try dsimp only at hSw); go_simp <;> with_reducible rfl)
  try simp only [Act.put, List.getElem_toArray, List.getElem_cons_zero, List.getElem_cons_succ, List.setIfInBounds_toArray, List.set_cons_zero, List.set_cons_succ]
  refine wpAnyH_take (i := 4) (v := ?tv4) rfl (by kernel_rfl) (by kernel_rfl) (by kernel_rfl) (fun _ _ _ h => h) (Or.inl ⟨by rfl, ?ty4⟩) (by assumption) ?tr4
  case ty4 => (intro w hSw; (try dsimp only at hSw); go_simp <;> with_reducible rfl)
  try simp only [Act.put, List.getElem_toArray, List.getElem_cons_zero, List.getElem_cons_succ, List.setIfInBounds_toArray, List.set_cons_zero, List.set_cons_succ]
  refine wpAnyH_ready (rs := [2]) (by kernel_rfl) (by simp) (AllReadyH.cons rfl (fun K hK => ?_) AllReadyH.nil)
  go_simp
  refine (PR _).out.mono ?_
  rintro e w7 ⟨rfl, g7⟩
  replace kR := (kR.drewN 1).gr g7
  dsimp only
  refine hK.out _ _ ?_ (fun hHeld => ?_)
  · exact S4.call (by assumption) g7
  clear hK K
  try simp only [Act.put, List.getElem_toArray, List.getElem_cons_zero, List.getElem_cons_succ, List.setIfInBounds_toArray, List.set_cons_zero, List.set_cons_succ]
  refine wpAnyH_ready (rs := [5]) (by kernel_rfl) (by simp) (AllReadyH.cons rfl (fun K hK => ?_) AllReadyH.nil)
  go_simp
  refine (PP _).out.mono ?_
  rintro e w8 ⟨rfl, g8⟩
  replace kR := kR.gr g8
  dsimp only
  refine hK.out _ _ ?_ (fun hHeld => ?_)
  · exact S4.call (by assumption) g8
  clear hK K
  try simp only [Act.put, List.getElem_toArray, List.getElem_cons_zero, List.getElem_cons_succ, List.setIfInBounds_toArray, List.set_cons_zero, List.set_cons_succ]
  refine wpAnyH_ready (rs := [6]) (by kernel_rfl) (by simp) (AllReadyH.cons rfl (fun K hK => ?_) AllReadyH.nil)
  go_simp
  refine (TM _).out.mono ?_
  rintro e w9 ⟨t1, t2, rfl, h3, h4, g9⟩
  replace kR := kR.gr g9
  dsimp only
  refine hK.out _ _ ?_ (fun hHeld => ?_)
  · exact S4.call (by assumption) g9
  clear hK K
  try simp only [Act.put, List.getElem_toArray, List.getElem_cons_zero, List.getElem_cons_succ, List.setIfInBounds_toArray, List.set_cons_zero, List.set_cons_succ]
  refine wpAnyH_ready (rs := [7]) (by kernel_rfl) (by simp) (AllReadyH.cons rfl (fun K hK => ?_) AllReadyH.nil)
  go_simp
  refine hK.out _ _ ?_ (fun hHeld => ?_)
  · exact S4.call (by assumption) ((Gr.refl _).drewN _)
  clear hK K
  try simp only [Act.put, List.getElem_toArray, List.getElem_cons_zero, List.getElem_cons_succ, List.setIfInBounds_toArray, List.set_cons_zero, List.set_cons_succ]
  refine wpAnyH_take (i := 8) (v := ?tv5) rfl (by kernel_rfl) (by kernel_rfl) (by kernel_rfl) (fun _ _ _ h => h) (Or.inl ⟨by rfl, ?ty5⟩) (by assumption) ?tr5
  case ty5 => (intro w hSw; (try dsimp only at hSw); go_simp <;> with_reducible rfl)
  try simp only [Act.put, List.getElem_toArray, List.getElem_cons_zero, List.getElem_cons_succ, List.setIfInBounds_toArray, List.set_cons_zero, List.set_cons_succ]
  obtain ⟨q0, q1, q2, q3⟩ := kR.two
  refine wpAnyH_ready (rs := [9]) (by kernel_rfl) (by simp) (AllReadyH.cons rfl (fun K hK => ?_) AllReadyH.nil)
  go_simp
  refine hK.out _ _ ?_ (fun hHeld => ?_)
  · exact S4.far (S4.far (by assumption) (by simp only []; omega) (by simp only []; omega) (by simp only []; omega) (by simp only []; omega) (by simp only []; omega) _) (by simp only []; omega) (by simp only []; omega) (by simp only []; omega) (by simp only []; omega) (by simp only []; omega) _
  clear hK K
  try simp only [Act.put, List.getElem_toArray, List.getElem_cons_zero, List.getElem_cons_succ, List.setIfInBounds_toArray, List.set_cons_zero, List.set_cons_succ]
  have gg := hHeld.2.2.2.2
  refine wpAnyH_take (i := 10) (v := ?tv6) rfl (by kernel_rfl) (by kernel_rfl) (by kernel_rfl) (fun _ _ _ h => h) (Or.inl ⟨by rfl, ?ty6⟩) (by assumption) ?tr6
  case ty6 => (intro w hSw; (try dsimp only at hSw); go_simp <;> with_reducible rfl)
  try simp only [Act.put, List.getElem_toArray, List.getElem_cons_zero, List.getElem_cons_succ, List.setIfInBounds_toArray, List.set_cons_zero, List.set_cons_succ]
  refine wpAnyH_done (by kernel_rfl) ?_ _
  have h5 := EV.out _ _ _ _ _ _ _ _ w9 (foi_V rx) (foi_V ry) h3 h4
  rw [← HC.out.1, ← HC.out.2] at h5
  go_wp2
  refine bodyPost_ret (v := .tuple #[simV _ _ _ _, .int .i64 0]) (by simp [results, Try.results27, go_sem, q0, q1]) rfl ⟨_, _, _, _, rfl, h1, h2, h5.1, h5.2, gg⟩
set_option maxRecDepth 20000 in
set_option maxHeartbeats 3200000 in
theorem fit_yes2 {px py qx qy rx ry sx sy : Int} (h1 : in32 px) (h2 : in32 py) (h3 : in32 qx) (h4 : in32 qy) (h5 : in32 rx) (h6 : in32 ry) (h7 : in32 sx) (h8 : in32 sy) (hb1 : (px == qx) = true) (hb2 : (py == qy) = false) (w : World) :
    Calls Try.prog 27 #[ptV px py, ptV qx qy, ptV rx ry, ptV sx sy] w fun e w' => ∃ a b c d, e = .returned (.tuple #[simV a b c d, .int .i64 0]) ∧ V a (ftA px py qx qy rx ry sx sy) ∧ V b (ftB px py qx qy rx ry sx sy) ∧ V c (ftC px py qx qy rx ry sx sy) ∧ V d (ftD px py qx qy rx ry sx sy) ∧ Gr w w' := by
  obtain ⟨kP, kQ, kr, kS, kR, g⟩ := five_new w 57 57 57 57 28 #[.int .i32 px, .int .i32 py] #[.int .i32 qx, .int .i32 qy] #[.int .i32 rx, .int .i32 ry] #[.int .i32 sx, .int .i32 sy] #[.complex .f64 0 0, .complex .f64 0 0]
  replace g := hid' g
  obtain ⟨X5, E, EV⟩ := cx_sfun
  replace EV := hid' EV
  have WR := fun w => hid' (way_any h5 h6 h7 h8 w)
  have WP := fun w => hid' (way_any h1 h2 h3 h4 w)
  have BY := fun w => hid' (by_any (foi_V (sx - rx)) (foi_V (sy - ry)) (foi_V (qx - px)) (foi_V (qy - py)) w)
  have PR := fun w => hid' (place_any h5 h6 w)
  have PP := fun w => hid' (place_any h1 h2 w)
  have HC : Hid (ftC px py qx qy rx ry sx sy = fo .sub (fi rx) (tRe (ftA px py qx qy rx ry sx sy) (ftB px py qx qy rx ry sx sy) (fi px) (fi py)) ∧ ftD px py qx qy rx ry sx sy = fo .sub (fi ry) (tIm (ftA px py qx qy rx ry sx sy) (ftB px py qx qy rx ry sx sy) (fi px) (fi py))) := ⟨rfl, rfl⟩
  have HA : Hid (ftA px py qx qy rx ry sx sy = byRe (fi (sx - rx)) (fi (sy - ry)) (fi (qx - px)) (fi (qy - py)) ∧ ftB px py qx qy rx ry sx sy = byIm (fi (sx - rx)) (fi (sy - ry)) (fi (qx - px)) (fi (qy - py))) := ⟨rfl, rfl⟩
  rw [← HA.out.1, ← HA.out.2] at BY
  generalize ftA px py qx qy rx ry sx sy = AF at *
  generalize ftB px py qx qy rx ry sx sy = BF at *
  generalize ftC px py qx qy rx ry sx sy = CF at *
  generalize ftD px py qx qy rx ry sx sy = DF at *
  have sc := run_store_c
  clear h1 h2 h3 h4 h5 h6 h7 h8 HA
  go_enter Try.func27, Try.ntmps27
  go_wp2_with fail
  generalize ((((w.alloc (.cells #[.int .i32 px, .int .i32 py] 57)).alloc (.cells #[.int .i32 qx, .int .i32 qy] 57)).alloc (.cells #[.int .i32 rx, .int .i32 ry] 57)).alloc (.cells #[.int .i32 sx, .int .i32 sy] 57)).alloc (.cells #[.complex .f64 0 0, .complex .f64 0 0] 28) = W at *
  obtain ⟨c0, c1⟩ := kP.two_gr
  obtain ⟨c2, c3⟩ := kQ.two_gr
  obtain ⟨c4, c5⟩ := kr.two_gr
  obtain ⟨c6, c7⟩ := kS.two_gr
  go_region_held3 (Gr W)
    (first
      | exact (Gr.refl _).drew
      | exact Gr.trans (by assumption) (by assumption)
      | assumption)
    (first
      | (go_at_call_of 58 rx; refine (WR _).out.mono ?_; rintro e w1 ⟨rfl, g1⟩)
      | (go_at_call_of 58 px; refine (WP _).out.mono ?_; rintro e w2 ⟨rfl, g2⟩)
      | (go_at_call 57; refine (number_any _ _ _).mono ?_; rintro e w3 ⟨rfl, rfl⟩)
      | (go_at_call 47; refine (BY _).out.mono ?_; rintro e w4 ⟨a, b, rfl, h1, h2, g4⟩))
  rename_i hH
  replace kP := kP.gr hH
  replace kr := kr.gr hH
  replace kR := kR.gr hH
  replace g := hid' (g.out.trans hH)
  clear hH g1 g2 g4 WR WP BY c0 c1 c2 c3 c4 c5 c6 c7 kQ kS
  have TM := fun w => hid' (times_any h1 h2 (foi_V px) (foi_V py) w)
  go_wp2_with fail
  obtain ⟨p0, p1, _, _⟩ := kP.two
  obtain ⟨r0, r1, _, _⟩ := kr.two
  refine wp_region_held_drew (S := S4 ⟨w.heap.size, 0, none⟩ ⟨w.heap.size, 1, none⟩ ⟨w.heap.size + 1 + 1, 0, none⟩ ⟨w.heap.size + 1 + 1, 1, none⟩ (.int .i32 px) (.int .i32 py) (.int .i32 rx) (.int .i32 ry) w) (by kernel_rfl) ⟨p0, p1, r0, r1, g.out.drew⟩ (fun hHeld => ?_)
  refine wpAnyH_take (i := 0) (v := ?tv1) rfl (by kernel_rfl) (by kernel_rfl) (by kernel_rfl) (fun _ _ _ h => h) (Or.inl ⟨by rfl, ?ty1⟩) (by assumption) ?tr1
  case ty1 => (intro w hSw; (try dsimp only at hSw); go_simp <;> with_reducible rfl)
  try simp only [Act.put, List.getElem_toArray, List.getElem_cons_zero, List.getElem_cons_succ, List.setIfInBounds_toArray, List.set_cons_zero, List.set_cons_succ]
  refine wpAnyH_take (i := 1) (v := ?tv2) rfl (by kernel_rfl) (by kernel_rfl) (by kernel_rfl) (fun _ _ _ h => h) (Or.inl ⟨by rfl, ?ty2⟩) (by assumption) ?tr2
  case ty2 => (intro w hSw; (try dsimp only at hSw); go_simp <;> with_reducible rfl)
  try simp only [Act.put, List.getElem_toArray, List.getElem_cons_zero, List.getElem_cons_succ, List.setIfInBounds_toArray, List.set_cons_zero, List.set_cons_succ]
  refine wpAnyH_take (i := 3) (v := ?tv3) rfl (by kernel_rfl) (by kernel_rfl) (by kernel_rfl) (fun _ _ _ h => h) (Or.inl ⟨by rfl, ?ty3⟩) (by assumption) ?tr3
  case ty3 => (intro w hSw; (try dsimp only at hSw); go_simp <;> with_reducible rfl)
  try simp only [Act.put, List.getElem_toArray, List.getElem_cons_zero, List.getElem_cons_succ, List.setIfInBounds_toArray, List.set_cons_zero, List.set_cons_succ]
  refine wpAnyH_take (i := 4) (v := ?tv4) rfl (by kernel_rfl) (by kernel_rfl) (by kernel_rfl) (fun _ _ _ h => h) (Or.inl ⟨by rfl, ?ty4⟩) (by assumption) ?tr4
  case ty4 => (intro w hSw; (try dsimp only at hSw); go_simp <;> with_reducible rfl)
  try simp only [Act.put, List.getElem_toArray, List.getElem_cons_zero, List.getElem_cons_succ, List.setIfInBounds_toArray, List.set_cons_zero, List.set_cons_succ]
  refine wpAnyH_ready (rs := [2]) (by kernel_rfl) (by simp) (AllReadyH.cons rfl (fun K hK => ?_) AllReadyH.nil)
  go_simp
  refine (PR _).out.mono ?_
  rintro e w7 ⟨rfl, g7⟩
  replace kR := (kR.drewN 1).gr g7
  dsimp only
  refine hK.out _ _ ?_ (fun hHeld => ?_)
  · exact S4.call (by assumption) g7
  clear hK K
  try simp only [Act.put, List.getElem_toArray, List.getElem_cons_zero, List.getElem_cons_succ, List.setIfInBounds_toArray, List.set_cons_zero, List.set_cons_succ]
  refine wpAnyH_ready (rs := [5]) (by kernel_rfl) (by simp) (AllReadyH.cons rfl (fun K hK => ?_) AllReadyH.nil)
  go_simp
  refine (PP _).out.mono ?_
  rintro e w8 ⟨rfl, g8⟩
  replace kR := kR.gr g8
  dsimp only
  refine hK.out _ _ ?_ (fun hHeld => ?_)
  · exact S4.call (by assumption) g8
  clear hK K
  try simp only [Act.put, List.getElem_toArray, List.getElem_cons_zero, List.getElem_cons_succ, List.setIfInBounds_toArray, List.set_cons_zero, List.set_cons_succ]
  refine wpAnyH_ready (rs := [6]) (by kernel_rfl) (by simp) (AllReadyH.cons rfl (fun K hK => ?_) AllReadyH.nil)
  go_simp
  refine (TM _).out.mono ?_
  rintro e w9 ⟨t1, t2, rfl, h3, h4, g9⟩
  replace kR := kR.gr g9
  dsimp only
  refine hK.out _ _ ?_ (fun hHeld => ?_)
  · exact S4.call (by assumption) g9
  clear hK K
  try simp only [Act.put, List.getElem_toArray, List.getElem_cons_zero, List.getElem_cons_succ, List.setIfInBounds_toArray, List.set_cons_zero, List.set_cons_succ]
  refine wpAnyH_ready (rs := [7]) (by kernel_rfl) (by simp) (AllReadyH.cons rfl (fun K hK => ?_) AllReadyH.nil)
  go_simp
  refine hK.out _ _ ?_ (fun hHeld => ?_)
  · exact S4.call (by assumption) ((Gr.refl _).drewN _)
  clear hK K
  try simp only [Act.put, List.getElem_toArray, List.getElem_cons_zero, List.getElem_cons_succ, List.setIfInBounds_toArray, List.set_cons_zero, List.set_cons_succ]
  refine wpAnyH_take (i := 8) (v := ?tv5) rfl (by kernel_rfl) (by kernel_rfl) (by kernel_rfl) (fun _ _ _ h => h) (Or.inl ⟨by rfl, ?ty5⟩) (by assumption) ?tr5
  case ty5 => (intro w hSw; (try dsimp only at hSw); go_simp <;> with_reducible rfl)
  try simp only [Act.put, List.getElem_toArray, List.getElem_cons_zero, List.getElem_cons_succ, List.setIfInBounds_toArray, List.set_cons_zero, List.set_cons_succ]
  obtain ⟨q0, q1, q2, q3⟩ := kR.two
  refine wpAnyH_ready (rs := [9]) (by kernel_rfl) (by simp) (AllReadyH.cons rfl (fun K hK => ?_) AllReadyH.nil)
  go_simp
  refine hK.out _ _ ?_ (fun hHeld => ?_)
  · exact S4.far (S4.far (by assumption) (by simp only []; omega) (by simp only []; omega) (by simp only []; omega) (by simp only []; omega) (by simp only []; omega) _) (by simp only []; omega) (by simp only []; omega) (by simp only []; omega) (by simp only []; omega) (by simp only []; omega) _
  clear hK K
  try simp only [Act.put, List.getElem_toArray, List.getElem_cons_zero, List.getElem_cons_succ, List.setIfInBounds_toArray, List.set_cons_zero, List.set_cons_succ]
  have gg := hHeld.2.2.2.2
  refine wpAnyH_take (i := 10) (v := ?tv6) rfl (by kernel_rfl) (by kernel_rfl) (by kernel_rfl) (fun _ _ _ h => h) (Or.inl ⟨by rfl, ?ty6⟩) (by assumption) ?tr6
  case ty6 => (intro w hSw; (try dsimp only at hSw); go_simp <;> with_reducible rfl)
  try simp only [Act.put, List.getElem_toArray, List.getElem_cons_zero, List.getElem_cons_succ, List.setIfInBounds_toArray, List.set_cons_zero, List.set_cons_succ]
  refine wpAnyH_done (by kernel_rfl) ?_ _
  have h5 := EV.out _ _ _ _ _ _ _ _ w9 (foi_V rx) (foi_V ry) h3 h4
  rw [← HC.out.1, ← HC.out.2] at h5
  go_wp2
  refine bodyPost_ret (v := .tuple #[simV _ _ _ _, .int .i64 0]) (by simp [results, Try.results27, go_sem, q0, q1]) rfl ⟨_, _, _, _, rfl, h1, h2, h5.1, h5.2, gg⟩
set_option maxRecDepth 20000 in
set_option maxHeartbeats 3200000 in
theorem fit_yes {px py qx qy rx ry sx sy : Int} (h1 : in32 px) (h2 : in32 py) (h3 : in32 qx) (h4 : in32 qy) (h5 : in32 rx) (h6 : in32 ry) (h7 : in32 sx) (h8 : in32 sy) (hne : ((px == qx) && (py == qy)) = false) (w : World) :
    Calls Try.prog 27 #[ptV px py, ptV qx qy, ptV rx ry, ptV sx sy] w fun e w' => ∃ a b c d, e = .returned (.tuple #[simV a b c d, .int .i64 0]) ∧ V a (ftA px py qx qy rx ry sx sy) ∧ V b (ftB px py qx qy rx ry sx sy) ∧ V c (ftC px py qx qy rx ry sx sy) ∧ V d (ftD px py qx qy rx ry sx sy) ∧ Gr w w' := by
  cases c1 : (px == qx) with
  | false => exact fit_yes1 h1 h2 h3 h4 h5 h6 h7 h8 c1 w
  | true =>
    rw [c1, Bool.true_and] at hne
    exact fit_yes2 h1 h2 h3 h4 h5 h6 h7 h8 c1 hne w
end Go.Proofs.Ytmjfphidcnjklaa
