/- Contract of the reference's Fit. -/
import Derived.Test.YtmjfphidcnjklaaPl3
set_option linter.unusedSimpArgs false
namespace Go.Proofs.Ytmjfphidcnjklaa
open Go.RowKit Go.Sort Ieee

theorem cell_drewb (w : World) (a : Addr) : w.drew.cell? a = w.cell? a := rfl

set_option maxRecDepth 20000 in
set_option maxHeartbeats 12800000 in
theorem rfit_yes2 {px py qx qy rx ry sx sy : Int} (h1 : in32 px) (h2 : in32 py) (h3 : in32 qx) (h4 : in32 qy) (h5 : in32 rx) (h6 : in32 ry) (h7 : in32 sx) (h8 : in32 sy) (hb1 : (px == qx) = true) (hb2 : (py == qy) = false) (w : World) :
    Calls Try.prog 28 #[ptV px py, ptV qx qy, ptV rx ry, ptV sx sy] w fun e w' => ∃ a b c d, e = .returned (.tuple #[mapV a b c d, .int .i64 0]) ∧ V a (ftA px py qx qy rx ry sx sy) ∧ V b (ftB px py qx qy rx ry sx sy) ∧ V c (ftC px py qx qy rx ry sx sy) ∧ V d (ftD px py qx qy rx ry sx sy) ∧ Gr w w' := by
  obtain ⟨kP, kQ, kr, kS, kR, g⟩ := five_new w 57 57 57 57 35 #[.int .i32 px, .int .i32 py] #[.int .i32 qx, .int .i32 qy] #[.int .i32 rx, .int .i32 ry] #[.int .i32 sx, .int .i32 sy] #[.float .f64 0, .float .f64 0, .float .f64 0, .float .f64 0]
  replace g := hid' g
  have WR := fun w => hid' (rway_any h5 h6 h7 h8 w)
  have WP := fun w => hid' (rway_any h1 h2 h3 h4 w)
  have BY := fun w => hid' (rby_any (foi_V (sx - rx)) (foi_V (sy - ry)) (foi_V (qx - px)) (foi_V (qy - py)) w)
  have TM : Hid (∀ a b, V a (ftA px py qx qy rx ry sx sy) → V b (ftB px py qx qy rx ry sx sy) → ∀ w, Calls Try.prog 43 #[numV a b, numV (fi px) (fi py)] w fun e w' => ∃ r s, e = .returned (numV r s) ∧ V r (tRe (ftA px py qx qy rx ry sx sy) (ftB px py qx qy rx ry sx sy) (fi px) (fi py)) ∧ V s (tIm (ftA px py qx qy rx ry sx sy) (ftB px py qx qy rx ry sx sy) (fi px) (fi py)) ∧ Gr w w') := fun a b ha hb w => rtimes_any ha hb (foi_V px) (foi_V py) w
  have MN : Hid (∀ r s, V r (tRe (ftA px py qx qy rx ry sx sy) (ftB px py qx qy rx ry sx sy) (fi px) (fi py)) → V s (tIm (ftA px py qx qy rx ry sx sy) (ftB px py qx qy rx ry sx sy) (fi px) (fi py)) → ∀ w, Calls Try.prog 52 #[numV (fi rx) (fi ry), numV r s] w fun e w' => ∃ x y, e = .returned (numV x y) ∧ V x (ftC px py qx qy rx ry sx sy) ∧ V y (ftD px py qx qy rx ry sx sy) ∧ Gr w w') := fun r s hr hs w => rminus_any (foi_V rx) (foi_V ry) hr hs w
  have HA : Hid (ftA px py qx qy rx ry sx sy = byRe (fi (sx - rx)) (fi (sy - ry)) (fi (qx - px)) (fi (qy - py)) ∧ ftB px py qx qy rx ry sx sy = byIm (fi (sx - rx)) (fi (sy - ry)) (fi (qx - px)) (fi (qy - py))) := ⟨rfl, rfl⟩
  rw [← HA.out.1, ← HA.out.2] at BY
  generalize ftA px py qx qy rx ry sx sy = AF at *
  generalize ftB px py qx qy rx ry sx sy = BF at *
  generalize ftC px py qx qy rx ry sx sy = CF at *
  generalize ftD px py qx qy rx ry sx sy = DF at *
  have sf := run_store_f
  clear h1 h2 h3 h4 h5 h6 h7 h8 HA
  have hl := kR.lt
  go_enter Try.func28, Try.ntmps28
  go_wp2_with fail
  generalize ((((w.alloc (.cells #[.int .i32 px, .int .i32 py] 57)).alloc (.cells #[.int .i32 qx, .int .i32 qy] 57)).alloc (.cells #[.int .i32 rx, .int .i32 ry] 57)).alloc (.cells #[.int .i32 sx, .int .i32 sy] 57)).alloc (.cells #[.float .f64 0, .float .f64 0, .float .f64 0, .float .f64 0] 35) = W at *
  go_cut [10] (fun s10 w' => ∃ Y a b, s10 = .pointer (some ⟨Y, 0, none⟩) ∧ w.heap.size + 1 + 1 + 1 + 1 < Y ∧ (V a AF ∧ V b BF) ∧ Bl w' Y 33 #[.float .f64 a, .float .f64 b] ∧ Bl w' w.heap.size 57 #[.int .i32 px, .int .i32 py] ∧ Bl w' (w.heap.size + 1 + 1) 57 #[.int .i32 rx, .int .i32 ry] ∧ Bl w' (w.heap.size + 1 + 1 + 1 + 1) 35 #[.float .f64 0, .float .f64 0, .float .f64 0, .float .f64 0] ∧ Gr w w')
  case first => as_aux_lemma =>
   obtain ⟨c0, c1⟩ := kP.two_gr
   obtain ⟨c2, c3⟩ := kQ.two_gr
   obtain ⟨c4, c5⟩ := kr.two_gr
   obtain ⟨c6, c7⟩ := kS.two_gr
   clear TM MN
   go_region_held3 (Gr W)
     (first
       | exact (Gr.refl _).drew
       | exact Gr.trans (by assumption) (by assumption)
       | assumption
       | exact Gr.alloc (by assumption) _
       | (refine Gr.setCell (Gr.setCell (by assumption) ?_ _) ?_ _ <;> (simp only []; omega)))
     (first
       | (go_at_call_of 60 rx; refine (WR _).out.mono ?_; rintro e w1 ⟨rfl, g1⟩; have G1 : Gr W w1 := Gr.trans (by assumption) g1; have hs1 : W.heap.size ≤ w1.heap.size := G1.size; first | (have kN : Bl w1 W.heap.size 33 #[.float .f64 0, .float .f64 0] := (Bl.new W.drew 33 #[.float .f64 0, .float .f64 0]).gr g1) | skip)
       | (go_at_call_of 60 px; refine (WP _).out.mono ?_; rintro e w2 ⟨rfl, g2⟩; have G2 : Gr W w2 := Gr.trans (by assumption) g2; have hs2 : W.heap.size ≤ w2.heap.size := G2.size; first | (replace kN := kN.gr g2) | (have kN : Bl w2 w1.heap.size 33 #[.float .f64 0, .float .f64 0] := (Bl.new w1 33 #[.float .f64 0, .float .f64 0]).gr g2) | skip)
       | (go_at_call 51; refine (BY _).out.mono ?_; rintro e w3 ⟨a, b, rfl, ha, hb, g3⟩; have G3 : Gr W w3 := Gr.trans (by assumption) g3; first | (replace kN := kN.gr g3; obtain ⟨n0, n1, n2, n3⟩ := kN.two) | (have kN : Bl w3 w2.heap.size 33 #[.float .f64 0, .float .f64 0] := (Bl.new w2 33 #[.float .f64 0, .float .f64 0]).gr g3; obtain ⟨n0, n1, n2, n3⟩ := kN.two) | skip))
   all_goals
     rename_i hH
     clear hH
     replace kP := kP.gr G3
     replace kr := kr.gr G3
     replace kR := kR.gr G3
     replace g := hid' (g.out.trans G3)
     clear c0 c1 c2 c3 c4 c5 c6 c7
   all_goals (first
     | (have kT := kN.set2 (.float .f64 a) (.float .f64 b)
        have hB : W.heap.size < w3.heap.size := kN.lt
        replace kP := (kP.other (p := ⟨W.heap.size, 0, none⟩) (by simp only []; omega) (.float .f64 a)).other (p := ⟨W.heap.size, 1, none⟩) (by simp only []; omega) (.float .f64 b)
        replace kr := (kr.other (p := ⟨W.heap.size, 0, none⟩) (by simp only []; omega) (.float .f64 a)).other (p := ⟨W.heap.size, 1, none⟩) (by simp only []; omega) (.float .f64 b)
        replace kR := (kR.other (p := ⟨W.heap.size, 0, none⟩) (by simp only []; omega) (.float .f64 a)).other (p := ⟨W.heap.size, 1, none⟩) (by simp only []; omega) (.float .f64 b)
        replace g := hid' ((g.out.setCell (p := ⟨W.heap.size, 0, none⟩) (by simp only []; omega) (.float .f64 a)).setCell (p := ⟨W.heap.size, 1, none⟩) (by simp only []; omega) (.float .f64 b))
        generalize (w3.setCell ⟨W.heap.size, 0, none⟩ (.float .f64 a)).setCell ⟨W.heap.size, 1, none⟩ (.float .f64 b) = W4 at *
        have hY : w.heap.size + 1 + 1 + 1 + 1 < W.heap.size := by omega
        generalize W.heap.size = Y at *)
     | (have kT := kN.set2 (.float .f64 a) (.float .f64 b)
        have hB : w1.heap.size < w3.heap.size := kN.lt
        replace kP := (kP.other (p := ⟨w1.heap.size, 0, none⟩) (by simp only []; omega) (.float .f64 a)).other (p := ⟨w1.heap.size, 1, none⟩) (by simp only []; omega) (.float .f64 b)
        replace kr := (kr.other (p := ⟨w1.heap.size, 0, none⟩) (by simp only []; omega) (.float .f64 a)).other (p := ⟨w1.heap.size, 1, none⟩) (by simp only []; omega) (.float .f64 b)
        replace kR := (kR.other (p := ⟨w1.heap.size, 0, none⟩) (by simp only []; omega) (.float .f64 a)).other (p := ⟨w1.heap.size, 1, none⟩) (by simp only []; omega) (.float .f64 b)
        replace g := hid' ((g.out.setCell (p := ⟨w1.heap.size, 0, none⟩) (by simp only []; omega) (.float .f64 a)).setCell (p := ⟨w1.heap.size, 1, none⟩) (by simp only []; omega) (.float .f64 b))
        generalize (w3.setCell ⟨w1.heap.size, 0, none⟩ (.float .f64 a)).setCell ⟨w1.heap.size, 1, none⟩ (.float .f64 b) = W4 at *
        have hY : w.heap.size + 1 + 1 + 1 + 1 < w1.heap.size := by omega
        generalize w1.heap.size = Y at *)
     | (have kT := kN.set2 (.float .f64 a) (.float .f64 b)
        have hB : w2.heap.size < w3.heap.size := kN.lt
        replace kP := (kP.other (p := ⟨w2.heap.size, 0, none⟩) (by simp only []; omega) (.float .f64 a)).other (p := ⟨w2.heap.size, 1, none⟩) (by simp only []; omega) (.float .f64 b)
        replace kr := (kr.other (p := ⟨w2.heap.size, 0, none⟩) (by simp only []; omega) (.float .f64 a)).other (p := ⟨w2.heap.size, 1, none⟩) (by simp only []; omega) (.float .f64 b)
        replace kR := (kR.other (p := ⟨w2.heap.size, 0, none⟩) (by simp only []; omega) (.float .f64 a)).other (p := ⟨w2.heap.size, 1, none⟩) (by simp only []; omega) (.float .f64 b)
        replace g := hid' ((g.out.setCell (p := ⟨w2.heap.size, 0, none⟩) (by simp only []; omega) (.float .f64 a)).setCell (p := ⟨w2.heap.size, 1, none⟩) (by simp only []; omega) (.float .f64 b))
        generalize (w3.setCell ⟨w2.heap.size, 0, none⟩ (.float .f64 a)).setCell ⟨w2.heap.size, 1, none⟩ (.float .f64 b) = W4 at *
        have hY : w.heap.size + 1 + 1 + 1 + 1 < w2.heap.size := by omega
        generalize w2.heap.size = Y at *)
     | (have kT := Bl.new w3 33 #[.float .f64 a, .float .f64 b]
        have hY : w.heap.size + 1 + 1 + 1 + 1 < w3.heap.size := by have := kR.lt; omega
        replace kP := kP.alloc (.cells #[.float .f64 a, .float .f64 b] 33)
        replace kr := kr.alloc (.cells #[.float .f64 a, .float .f64 b] 33)
        replace kR := kR.alloc (.cells #[.float .f64 a, .float .f64 b] 33)
        replace g := hid' (g.out.alloc (.cells #[.float .f64 a, .float .f64 b] 33))
        generalize w3.alloc (.cells #[.float .f64 a, .float .f64 b] 33) = W4 at *
        generalize w3.heap.size = Y at *))
   all_goals
     go_wp2_with fail
     go_meet
     exact ⟨Y, a, b, rfl, hY, ⟨ha, hb⟩, kT, kP, kr, kR, g.out⟩
  case rest => as_aux_lemma =>
    obtain ⟨Y, a, b, rfl, hY, ⟨ha, hb⟩, kT, kP', kr', kR', g'⟩ := hcut
    clear kP kr kR g kQ kS
    have kP := kP'
    have kr := kr'
    have kR := kR'
    have g := hid' g'
    clear kP' kr' kR' g'
    generalize wc = W4 at *
    have kAt := (Bl.new W4 33 #[.float .f64 (fi px), .float .f64 (fi py)]).alloc (.cells #[.float .f64 (fi rx), .float .f64 (fi ry)] 33)
    have kTo := Bl.new (W4.alloc (.cells #[.float .f64 (fi px), .float .f64 (fi py)] 33)) 33 #[.float .f64 (fi rx), .float .f64 (fi ry)]
    have eS : (W4.alloc (.cells #[.float .f64 (fi px), .float .f64 (fi py)] 33)).heap.size = W4.heap.size + 1 := by simp
    rw [eS] at kTo
    have hZ := kT.lt
    obtain ⟨p0, p1, _, _⟩ := kP.two
    obtain ⟨r0, r1, _, _⟩ := (kr.alloc (.cells #[.float .f64 (fi px), .float .f64 (fi py)] 33)).two
    replace kT := (kT.alloc (.cells #[.float .f64 (fi px), .float .f64 (fi py)] 33)).alloc (.cells #[.float .f64 (fi rx), .float .f64 (fi ry)] 33)
    replace kR := (kR.alloc (.cells #[.float .f64 (fi px), .float .f64 (fi py)] 33)).alloc (.cells #[.float .f64 (fi rx), .float .f64 (fi ry)] 33)
    replace g := hid' ((g.out.alloc (.cells #[.float .f64 (fi px), .float .f64 (fi py)] 33)).alloc (.cells #[.float .f64 (fi rx), .float .f64 (fi ry)] 33))
    clear WR WP BY eS
    go_wp2_with fail
    generalize (W4.alloc (.cells #[.float .f64 (fi px), .float .f64 (fi py)] 33)).alloc (.cells #[.float .f64 (fi rx), .float .f64 (fi ry)] 33) = W6 at *
    generalize W4.heap.size = Z at *
    obtain ⟨t0, t1, _, _⟩ := kT.two
    obtain ⟨a0, a1, _, _⟩ := kAt.two
    obtain ⟨o0, o1, _, _⟩ := kTo.two
    clear p0 p1 r0 r1 kP kr
    unfold fi at TM MN a0 a1 o0 o1
    generalize floatOfInt .f64 px = PX at *
    generalize floatOfInt .f64 py = PY at *
    generalize floatOfInt .f64 rx = RX at *
    generalize floatOfInt .f64 ry = RY at *
    refine wp_region_held_drew (S := S6 ⟨Y, 0, none⟩ ⟨Y, 1, none⟩ ⟨Z, 0, none⟩ ⟨Z, 1, none⟩ ⟨Z + 1, 0, none⟩ ⟨Z + 1, 1, none⟩ (.float .f64 a) (.float .f64 b) (.float .f64 PX) (.float .f64 PY) (.float .f64 RX) (.float .f64 RY) w) (by kernel_rfl) ⟨(cell_drewb _ _).trans t0, (cell_drewb _ _).trans t1, (cell_drewb _ _).trans a0, (cell_drewb _ _).trans a1, (cell_drewb _ _).trans o0, (cell_drewb _ _).trans o1, g.out.drew⟩ (fun hHeld => ?_)
    refine wpAnyH_take (i := 0) (v := ?tv1) rfl (by kernel_rfl) (by kernel_rfl) (by kernel_rfl) (fun _ _ _ h => h) (Or.inl ⟨by rfl, ?ty1⟩) (by assumption) ?tr1
    case ty1 => (intro w hSw; (try dsimp only at hSw); go_simp <;> with_reducible rfl)
    try simp only [Act.put, List.getElem_toArray, List.getElem_cons_zero, List.getElem_cons_succ, List.setIfInBounds_toArray, List.set_cons_zero, List.set_cons_succ]
    refine wpAnyH_take (i := 1) (v := ?tv2) rfl (by kernel_rfl) (by kernel_rfl) (by kernel_rfl) (fun _ _ _ h => h) (Or.inl ⟨by rfl, ?ty2⟩) (by assumption) ?tr2
    case ty2 => (intro w hSw; (try dsimp only at hSw); go_simp <;> with_reducible rfl)
    try simp only [Act.put, List.getElem_toArray, List.getElem_cons_zero, List.getElem_cons_succ, List.setIfInBounds_toArray, List.set_cons_zero, List.set_cons_succ]
    refine wpAnyH_take (i := 2) (v := ?tv3) rfl (by kernel_rfl) (by kernel_rfl) (by kernel_rfl) (fun _ _ _ h => h) (Or.inl ⟨by rfl, ?ty3⟩) (by assumption) ?tr3
    case ty3 => (intro w hSw; (try dsimp only at hSw); go_simp <;> with_reducible rfl)
    try simp only [Act.put, List.getElem_toArray, List.getElem_cons_zero, List.getElem_cons_succ, List.setIfInBounds_toArray, List.set_cons_zero, List.set_cons_succ]
    refine wpAnyH_take (i := 3) (v := ?tv4) rfl (by kernel_rfl) (by kernel_rfl) (by kernel_rfl) (fun _ _ _ h => h) (Or.inl ⟨by rfl, ?ty4⟩) (by assumption) ?tr4
    case ty4 => (intro w hSw; (try dsimp only at hSw); go_simp <;> with_reducible rfl)
    try simp only [Act.put, List.getElem_toArray, List.getElem_cons_zero, List.getElem_cons_succ, List.setIfInBounds_toArray, List.set_cons_zero, List.set_cons_succ]
    refine wpAnyH_ready (rs := [4]) (by kernel_rfl) (by simp) (AllReadyH.cons rfl (fun K hK => ?_) AllReadyH.nil)
    go_simp
    refine (TM.out a b ha hb _).mono ?_
    rintro e w7 ⟨r, s, rfl, h3, h4, g7⟩
    replace kR := (kR.drewN 1).gr g7
    dsimp only
    refine hK.out _ _ ?_ (fun hHeld => ?_)
    · exact S6.call (by assumption) g7
    clear hK K
    try simp only [Act.put, List.getElem_toArray, List.getElem_cons_zero, List.getElem_cons_succ, List.setIfInBounds_toArray, List.set_cons_zero, List.set_cons_succ]
    refine wpAnyH_ready (rs := [5]) (by kernel_rfl) (by simp) (AllReadyH.cons rfl (fun K hK => ?_) AllReadyH.nil)
    go_simp
    refine (MN.out r s h3 h4 _).mono ?_
    rintro e w8 ⟨x8, y8, rfl, h5, h6, g8⟩
    replace kR := kR.gr g8
    dsimp only
    refine hK.out _ _ ?_ (fun hHeld => ?_)
    · exact S6.call (by assumption) g8
    clear hK K
    try simp only [Act.put, List.getElem_toArray, List.getElem_cons_zero, List.getElem_cons_succ, List.setIfInBounds_toArray, List.set_cons_zero, List.set_cons_succ]
    refine wpAnyH_take (i := 6) (v := ?tv5) rfl (by kernel_rfl) (by kernel_rfl) (by kernel_rfl) (fun _ _ _ h => h) (Or.inl ⟨by rfl, ?ty5⟩) (by assumption) ?tr5
    case ty5 => (intro w hSw; (try dsimp only at hSw); go_simp <;> with_reducible rfl)
    try simp only [Act.put, List.getElem_toArray, List.getElem_cons_zero, List.getElem_cons_succ, List.setIfInBounds_toArray, List.set_cons_zero, List.set_cons_succ]
    obtain ⟨⟨q0, q1, q2, q3⟩, u0, u1, u2, u3⟩ := kR.four
    refine wpAnyH_ready (rs := [7]) (by kernel_rfl) (by simp) (AllReadyH.cons rfl (fun K hK => ?_) AllReadyH.nil)
    go_simp
    refine hK.out _ _ ?_ (fun hHeld => ?_)
    · exact S6.set (S6.set (S6.set (S6.set (by assumption) (by simp only []; omega) (by simp only []; omega) (by simp only []; omega) (by simp only []; omega) (by simp only []; omega) (by simp only []; omega) (by simp only []; omega) _) (by simp only []; omega) (by simp only []; omega) (by simp only []; omega) (by simp only []; omega) (by simp only []; omega) (by simp only []; omega) (by simp only []; omega) _) (by simp only []; omega) (by simp only []; omega) (by simp only []; omega) (by simp only []; omega) (by simp only []; omega) (by simp only []; omega) (by simp only []; omega) _) (by simp only []; omega) (by simp only []; omega) (by simp only []; omega) (by simp only []; omega) (by simp only []; omega) (by simp only []; omega) (by simp only []; omega) _
    clear hK K
    try simp only [Act.put, List.getElem_toArray, List.getElem_cons_zero, List.getElem_cons_succ, List.setIfInBounds_toArray, List.set_cons_zero, List.set_cons_succ]
    have gg := hHeld.2.2.2.2.2.2
    refine wpAnyH_take (i := 8) (v := ?tv6) rfl (by kernel_rfl) (by kernel_rfl) (by kernel_rfl) (fun _ _ _ h => h) (Or.inl ⟨by rfl, ?ty6⟩) (by assumption) ?tr6
    case ty6 => (intro w hSw; (try dsimp only at hSw); go_simp <;> with_reducible rfl)
    try simp only [Act.put, List.getElem_toArray, List.getElem_cons_zero, List.getElem_cons_succ, List.setIfInBounds_toArray, List.set_cons_zero, List.set_cons_succ]
    refine wpAnyH_done (by kernel_rfl) ?_ _
    go_wp2
    refine bodyPost_ret (v := .tuple #[mapV a b x8 y8, .int .i64 0]) (by simp [results, Try.results28, go_sem, q0, q1, q2, q3]) rfl ⟨_, _, _, _, rfl, ha, hb, h5, h6, gg⟩
end Go.Proofs.Ytmjfphidcnjklaa
