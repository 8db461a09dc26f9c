/- The law InsideRound, walked. -/
import Derived.Test.YtpdhknclhpifkabMo
namespace Go.Proofs.Ytpdhknclhpifkab
open Go.RowKit Go.Shelf Go.Sort

/-- A block of the argument. -/
def AskB (W : World) (b : Nat) (r h : Value) (p : Int × Int) : Prop := W.heap[b]? = some (.cells #[r, h, .int .i32 p.1, .int .i32 p.2] 27 (0, 0))
section
variable {W : World} {b : Nat} {r h : Value} {p : Int × Int}
theorem AskB.lt (k : AskB W b r h p) : b < W.heap.size := (Array.getElem?_eq_some_iff.1 k).1
theorem AskB.c0 (k : AskB W b r h p) : W.cell? ⟨b, 0, none⟩ = some r := by unfold AskB at k; simp [World.cell?, k]
theorem AskB.c2 (k : AskB W b r h p) : W.cell? ⟨b, 2, none⟩ = some (.int .i32 p.1) := by unfold AskB at k; simp [World.cell?, k]
theorem AskB.c3 (k : AskB W b r h p) : W.cell? ⟨b, 3, none⟩ = some (.int .i32 p.2) := by unfold AskB at k; simp [World.cell?, k]
theorem AskB.mono {W' : World} (k : AskB W b r h p) (g : Below W.heap.size W W') : AskB W' b r h p := by unfold AskB; rw [g.block b k.lt]; exact k
end
theorem AskB.new (w : World) (r h : Value) (p : Int × Int) : AskB (w.alloc (.cells #[r, h, .int .i32 p.1, .int .i32 p.2] 27)) w.heap.size r h p := World.alloc_heap_new w _
theorem one_pts {W : World} {b : Nat} {p : Int × Int} (h : PtB W b p) : Pts W (some ⟨b, 0, none⟩) [p] := fun i hi => by
  have : i = 0 := by simp at hi; omega
  subst this
  exact ⟨b, 0, rfl, h.c0, h.c1⟩

set_option maxRecDepth 100000 in
set_option maxHeartbeats 16000000 in
theorem round_walk (ro : Option Addr) (rc : Nat) (L : List (Int × Int)) (hL : All32 L) (hlen : L.length ≤ 17592186043904) (hv : Value) (p : Int × Int) (hp : P32 p) (n : Int) (d : Int × Int) (hd : P32 d) (w : World) (hP : Pts w ro L) :
    Calls Try.prog 3 #[.agg #[.slice ro L.length rc, hv, .int .i32 p.1, .int .i32 p.2], .int .i64 n, pt d.1 d.2] w fun e w' => e = .returned (.bool true) ∧ Below w.heap.size w w' := by
  have g0 : Gr w ((w.alloc (.cells #[.slice ro L.length rc, hv, .int .i32 p.1, .int .i32 p.2] 27)).alloc (.cells #[.int .i32 d.1, .int .i32 d.2] 25)) := ((Gr.refl _).alloc _).alloc _
  have kx : AskB ((w.alloc (.cells #[.slice ro L.length rc, hv, .int .i32 p.1, .int .i32 p.2] 27)).alloc (.cells #[.int .i32 d.1, .int .i32 d.2] 25)) w.heap.size (.slice ro L.length rc) hv p := (AskB.new w _ _ _).mono ((Gr.refl _).alloc _).below
  have kd : PtB ((w.alloc (.cells #[.slice ro L.length rc, hv, .int .i32 p.1, .int .i32 p.2] 27)).alloc (.cells #[.int .i32 d.1, .int .i32 d.2] 25)) (w.heap.size + 1) d := by
    have := PtB.new (w.alloc (.cells #[.slice ro L.length rc, hv, .int .i32 p.1, .int .i32 p.2] 27)) d
    rwa [World.size_alloc] at this
  have hP1 := hP.mono g0.below
  have AW : Hid (∀ W, Calls Try.prog 7 #[] W fun e w' => e = .returned (.bool true) ∧ Below W.heap.size W w') := awake_any
  have O8 : Hid (∀ W, Pts W ro L → Calls Try.prog 8 #[.slice ro L.length rc, pt p.1 p.2] W fun e w' => e = .returned (.bool (edgeL L p)) ∧ Below W.heap.size W w') := fun W h => edge_any _ _ L hL hlen p hp W h
  have O9 : Hid (∀ W, Pts W ro L → Calls Try.prog 9 #[.slice ro L.length rc, pt p.1 p.2] W fun e w' => e = .returned (.bool (coversL L p)) ∧ Below W.heap.size W w') := fun W h => covers_any _ _ L hL hlen p hp W h
  have O10 : Hid (∀ W, Pts W ro L → Calls Try.prog 10 #[.slice ro L.length rc, pt p.1 p.2] W fun e w' => e = .returned (.int .i64 (sumZ (pastI p) L L.length)) ∧ Below W.heap.size W w') := fun W h => winding_any _ _ L hL hlen p hp W h
  have O13 : Hid (∀ W, Pts W ro L → Calls Try.prog 13 #[.slice ro L.length rc, pt p.1 p.2] W fun e w' => e = .returned (.int .i64 (sumZ (crossI p) L L.length)) ∧ Below W.heap.size W w') := fun W h => crossings_any _ _ L hL hlen p hp W h
  have T8 : Hid (∀ W r c R b, Pts W r (rotL L R b) → Calls Try.prog 8 #[.slice r L.length c, pt p.1 p.2] W fun e w' => e = .returned (.bool (edgeL L p)) ∧ Below W.heap.size W w') := fun W r c R b h => by
    have := edge_any r c (rotL L R b) (rot_32 hL R b) (by rw [rotL_len]; exact hlen) p hp W h
    rw [rot_edge, rotL_len] at this
    exact this
  have T9 : Hid (∀ W r c R b, Pts W r (rotL L R b) → Calls Try.prog 9 #[.slice r L.length c, pt p.1 p.2] W fun e w' => e = .returned (.bool (coversL L p)) ∧ Below W.heap.size W w') := fun W r c R b h => by
    have := covers_any r c (rotL L R b) (rot_32 hL R b) (by rw [rotL_len]; exact hlen) p hp W h
    rw [rot_covers, rotL_len] at this
    exact this
  have T10 : Hid (∀ W r c R b, Pts W r (rotL L R b) → Calls Try.prog 10 #[.slice r L.length c, pt p.1 p.2] W fun e w' => e = .returned (.int .i64 (if b then -sumZ (pastI p) L L.length else sumZ (pastI p) L L.length)) ∧ Below W.heap.size W w') := fun W r c R b h => by
    have := winding_any r c (rotL L R b) (rot_32 hL R b) (by rw [rotL_len]; exact hlen) p hp W h
    rw [rot_wind, rotL_len] at this
    exact this
  have T11 : Hid (∀ W b, Pts W ro L → Calls Try.prog 11 #[.slice ro L.length rc, .int .i64 n, .bool b] W fun e w' => ∃ r c R, e = .returned (.slice r L.length c) ∧ Pts w' r (rotL L R b) ∧ Below W.heap.size W w') := fun W b h => by
    refine (turned_any ro rc L hlen n b W h).mono ?_
    rintro e w' ⟨sv, R, rfl, ho, hb⟩
    obtain ⟨r, c, rfl, h1, _⟩ := own_pts ho
    exact ⟨r, c, R, rfl, h1, hb⟩
  have M12 : Hid (∀ W, Pts W ro L → Calls Try.prog 12 #[.slice ro L.length rc, pt d.1 d.2] W fun e w' => ∃ r l c ok, e = .returned (.tuple #[.slice r l c, .bool ok]) ∧ (ok = true → l = L.length ∧ Pts w' r (L.map (sh d)) ∧ All32 (L.map (sh d))) ∧ Below W.heap.size W w') := fun W h => by
    refine (moved_any ro rc L hL hlen d hd W h).mono ?_
    rintro e w' ⟨sv, ok, rfl, h1, h2, hb⟩
    cases ok with
    | true =>
      obtain ⟨ho, h3⟩ := h1 rfl
      obtain ⟨r, c, rfl, h4, _⟩ := own_pts ho
      exact ⟨r, _, c, true, rfl, fun _ => ⟨rfl, h4, h3⟩, hb⟩
    | false =>
      rw [h2 rfl]
      exact ⟨none, 0, 0, false, rfl, fun h => (by cases h), hb⟩
  have M1 : Hid (∀ W b, PtB W b p → Calls Try.prog 12 #[.slice (some ⟨b, 0, none⟩) 1 1, pt d.1 d.2] W fun e w' => ∃ r l c ok, e = .returned (.tuple #[.slice r l c, .bool ok]) ∧ (ok = true → l = 1 ∧ Pts w' r [sh d p] ∧ P32 (sh d p)) ∧ Below W.heap.size W w') := fun W b h => by
    refine (moved_any (some ⟨b, 0, none⟩) 1 [p] (fun q hq => by simp at hq; subst hq; exact hp) (by simp) d hd W (one_pts h)).mono ?_
    rintro e w' ⟨sv, ok, rfl, h1, h2, hb⟩
    cases ok with
    | true =>
      obtain ⟨ho, h3⟩ := h1 rfl
      obtain ⟨r, c, rfl, h4, _⟩ := own_pts ho
      exact ⟨r, _, c, true, rfl, fun _ => ⟨rfl, h4, h3 _ (by simp)⟩, hb⟩
    | false =>
      rw [h2 rfl]
      exact ⟨none, 0, 0, false, rfl, fun h => (by cases h), hb⟩
  have S8 : Hid (∀ W r c, All32 (L.map (sh d)) → P32 (sh d p) → Pts W r (L.map (sh d)) → Calls Try.prog 8 #[.slice r L.length c, pt (sh d p).1 (sh d p).2] W fun e w' => e = .returned (.bool (edgeL L p)) ∧ Below W.heap.size W w') := fun W r c h1 h2 h => by
    have := edge_any r c (L.map (sh d)) h1 (by rw [List.length_map]; exact hlen) (sh d p) h2 W h
    rw [sh_edge, List.length_map] at this
    exact this
  have S9 : Hid (∀ W r c, All32 (L.map (sh d)) → P32 (sh d p) → Pts W r (L.map (sh d)) → Calls Try.prog 9 #[.slice r L.length c, pt (sh d p).1 (sh d p).2] W fun e w' => e = .returned (.bool (coversL L p)) ∧ Below W.heap.size W w') := fun W r c h1 h2 h => by
    have := covers_any r c (L.map (sh d)) h1 (by rw [List.length_map]; exact hlen) (sh d p) h2 W h
    rw [sh_covers, List.length_map] at this
    exact this
  have S10 : Hid (∀ W r c, All32 (L.map (sh d)) → P32 (sh d p) → Pts W r (L.map (sh d)) → Calls Try.prog 10 #[.slice r L.length c, pt (sh d p).1 (sh d p).2] W fun e w' => e = .returned (.int .i64 (sumZ (pastI p) L L.length)) ∧ Below W.heap.size W w') := fun W r c h1 h2 h => by
    have := winding_any r c (L.map (sh d)) h1 (by rw [List.length_map]; exact hlen) (sh d p) h2 W h
    rw [sh_wind, List.length_map] at this
    exact this
  have S13 : Hid (∀ W r c, All32 (L.map (sh d)) → P32 (sh d p) → Pts W r (L.map (sh d)) → Calls Try.prog 13 #[.slice r L.length c, pt (sh d p).1 (sh d p).2] W fun e w' => e = .returned (.int .i64 (sumZ (crossI p) L L.length)) ∧ Below W.heap.size W w') := fun W r c h1 h2 h => by
    have := crossings_any r c (L.map (sh d)) h1 (by rw [List.length_map]; exact hlen) (sh d p) h2 W h
    rw [sh_cross, List.length_map] at this
    exact this
  have hWb := sumZ_bd (L := L) (M := 1) (past_abs p) L.length
  generalize edgeL L p = E at *
  generalize coversL L p = C at *
  generalize sumZ (pastI p) L L.length = Wd at *
  generalize sumZ (crossI p) L L.length = Xd at *
  have hneg : wrap64 (-Wd) = -Wd := by unfold wrap64; omega
  clear hWb hp hd
  go_enter Try.func3, Try.ntmps3
  go_upto_region 1 with fail
  generalize (w.alloc (.cells #[.slice ro L.length rc, hv, .int .i32 p.1, .int .i32 p.2] 27)).alloc (.cells #[.int .i32 d.1, .int .i32 d.2] 25) = w1 at *
  go_upto_region 5 with (go_at_call 7; refine (AW.out _).mono ?_; rintro e w2 ⟨rfl, g2⟩; have x0 := (kx.mono g2).c0; have x2 := (kx.mono g2).c2; have x3 := (kx.mono g2).c3)
  have kp := PtB.new w2 p
  have g3 : Gr w2 (w2.alloc (.cells #[.int .i32 p.1, .int .i32 p.2] 25)) := (Gr.refl _).alloc _
  have hB3 : Below w.heap.size w (w2.alloc (.cells #[.int .i32 p.1, .int .i32 p.2] 25)) := (g0.below.trans (g2.mono g0.size)).trans (g3.below.mono (by have := g0.size; have := g2.size; omega))
  have PR := (hP1.mono g2).mono g3.below
  have kd3 := (kd.mono g2 kd.lt).gr g3
  generalize hbp : w2.heap.size = bp at *
  generalize w2.alloc (.cells #[.int .i32 p.1, .int .i32 p.2] 25) = w3 at *
  clear g0 kx kd hP hP1 AW x0 x2 x3 g2 g3 hbp
  have KP : Hid (∀ W, Below w3.heap.size w3 W → PtB W bp p) := fun W h => kp.mono h kp.lt
  have KD : Hid (∀ W, Below w3.heap.size w3 W → PtB W (w.heap.size + 1) d) := fun W h => kd3.mono h kd3.lt
  have PP : Hid (∀ W, Below w3.heap.size w3 W → Pts W ro L) := fun W h => PR.mono h
  have c0 := kp.c0
  have c1 := kp.c1
  have hB := Below.refl w3.heap.size w3
  clear kp kd3 PR
  go_wp2_with (first | (go_at_call 8; refine (O8.out _ (PP.out _ hB)).mono ?_; rintro e w4 ⟨rfl, g4⟩; replace hB := hB.trans (g4.mono hB.size); clear g4; have c0 := (KP.out _ hB).c0; have c1 := (KP.out _ hB).c1) | (go_at_call 9; refine (O9.out _ (PP.out _ hB)).mono ?_; rintro e w4 ⟨rfl, g4⟩; replace hB := hB.trans (g4.mono hB.size); clear g4; have c0 := (KP.out _ hB).c0; have c1 := (KP.out _ hB).c1) | (go_at_call 10; refine (O10.out _ (PP.out _ hB)).mono ?_; rintro e w4 ⟨rfl, g4⟩; replace hB := hB.trans (g4.mono hB.size); clear g4))
  go_loopw [12] (fun i wr => ∃ k : Nat, k ≤ 2 ∧ i = .int .i64 k ∧ Below w3.heap.size w3 wr) (fun i _ => 2 - (intOf i).toNat)
  case atStart => exact ⟨0, by omega, rfl, hB⟩
  case round =>
    clear hB
    obtain ⟨k, hk, rfl, hB⟩ := hrel
    have c0 := (KP.out _ hB).c0
    have c1 := (KP.out _ hB).c1
    by_cases hk2 : k = 2
    · subst hk2
      clear hk T8 T9 T10 T11
      have d0 := (KD.out _ hB).c0
      have d1 := (KD.out _ hB).c1
      go_upto_region 20 with (go_at_call 12; refine (M12.out _ (PP.out _ hB)).mono ?_; rintro e w6 ⟨r6, l6, c6, ok6, rfl, h6, g6⟩; replace hB := hB.trans (g6.mono hB.size); clear g6)
      have c0 := (KP.out _ hB).c0
      have c1 := (KP.out _ hB).c1
      have d0 := (KD.out _ hB).c0
      have d1 := (KD.out _ hB).c1
      have kq := PtB.new w6 p
      have g7 : Gr w6 (w6.alloc (.cells #[.int .i32 p.1, .int .i32 p.2] 25)) := (Gr.refl _).alloc _
      have e0 := ((KD.out _ hB).gr g7).c0
      have e1 := ((KD.out _ hB).gr g7).c1
      have hB7 := hB.trans (g7.below.mono hB.size)
      have h6' : Hid (ok6 = true → l6 = L.length ∧ Pts w6 r6 (L.map (sh d)) ∧ All32 (L.map (sh d))) := h6
      clear h6
      go_upto_region 21 with (go_at_call 12; refine (M1.out _ _ kq).mono ?_; rintro e w8 ⟨r8, l8, c8, ok8, rfl, h8, g8⟩)
      have hB8 := hB7.trans (g8.mono hB7.size)
      have h6 : Hid (ok6 = true → l6 = L.length ∧ Pts w8 r6 (L.map (sh d)) ∧ All32 (L.map (sh d))) := fun h => ⟨(h6'.out h).1, ((h6'.out h).2.1.mono g7.below).mono g8, (h6'.out h).2.2⟩
      replace h8 : Hid (ok8 = true → l8 = 1 ∧ Pts w8 r8 [sh d p] ∧ P32 (sh d p)) := h8
      have hBw : Below w.heap.size w w8 := hB3.trans (hB8.mono hB3.size)
      clear c0 c1 d0 d1 e0 e1 kq g7 hB7 h6' g8 hB M1 M12
      cases ok6 with
      | false =>
        go_wp2
        go_ret
        exact ⟨rfl, hBw⟩
      | true =>
        cases ok8 with
        | false =>
          go_wp2
          go_ret
          exact ⟨rfl, hBw⟩
        | true =>
          obtain ⟨rfl, P6, A6⟩ := h6.out rfl
          obtain ⟨rfl, P8, A8⟩ := h8.out rfl
          obtain ⟨b8, off8, rfl, f0, f1⟩ := P8 0 (by simp)
          simp only [List.getD_cons_zero, Nat.zero_mul, Nat.add_zero] at f0 f1
          have R8 : Hid (∀ dd os, Calls Try.prog 8 #[.slice r6 L.length c6, pt (sh d p).1 (sh d p).2] (grow (redrawn w8 dd) os) fun e w' => e = .returned (.bool E) ∧ ∃ q : Regrown, w' = grow (redrawn w8 q.d) q.os) := fun dd os => Calls.regrown_of (S8.out _ r6 c6 A6 A8 (P6.mono (below_regrown w8 dd os)))
          have R9 : Hid (∀ dd os, Calls Try.prog 9 #[.slice r6 L.length c6, pt (sh d p).1 (sh d p).2] (grow (redrawn w8 dd) os) fun e w' => e = .returned (.bool C) ∧ ∃ q : Regrown, w' = grow (redrawn w8 q.d) q.os) := fun dd os => Calls.regrown_of (S9.out _ r6 c6 A6 A8 (P6.mono (below_regrown w8 dd os)))
          have R10 : Hid (∀ dd os, Calls Try.prog 10 #[.slice r6 L.length c6, pt (sh d p).1 (sh d p).2] (grow (redrawn w8 dd) os) fun e w' => e = .returned (.int .i64 Wd) ∧ ∃ q : Regrown, w' = grow (redrawn w8 q.d) q.os) := fun dd os => Calls.regrown_of (S10.out _ r6 c6 A6 A8 (P6.mono (below_regrown w8 dd os)))
          have R13 : Hid (∀ dd os, Calls Try.prog 13 #[.slice r6 L.length c6, pt (sh d p).1 (sh d p).2] (grow (redrawn w8 dd) os) fun e w' => e = .returned (.int .i64 Xd) ∧ ∃ q : Regrown, w' = grow (redrawn w8 q.d) q.os) := fun dd os => Calls.regrown_of (S13.out _ r6 c6 A6 A8 (P6.mono (below_regrown w8 dd os)))
          have R13' : Hid (∀ dd os, Calls Try.prog 13 #[.slice ro L.length rc, pt p.1 p.2] (grow (redrawn w8 dd) os) fun e w' => e = .returned (.int .i64 Xd) ∧ ∃ q : Regrown, w' = grow (redrawn w8 q.d) q.os) := fun dd os => Calls.regrown_of (O13.out _ ((PP.out _ hB8).mono (below_regrown w8 dd os)))
          have x0 := fun dd os => cell_regrown f0 dd os
          have x1 := fun dd os => cell_regrown f1 dd os
          have y0 := fun dd os => cell_regrown (KP.out _ hB8).c0 dd os
          have y1 := fun dd os => cell_regrown (KP.out _ hB8).c1 dd os
          clear h6 h8 f0 f1 P6 P8 A6 A8 S8 S9 S10 S13 O8 O9 O10 O13
          generalize (sh d p).1 = U at *
          generalize (sh d p).2 = V at *
          have G13 : Hid (∀ r c u v, ((r = r6 ∧ c = c6 ∧ u = U ∧ v = V) ∨ (r = ro ∧ c = rc ∧ u = p.1 ∧ v = p.2)) → ∀ dd os, Calls Try.prog 13 #[.slice r L.length c, pt u v] (grow (redrawn w8 dd) os) fun e w' => e = .returned (.int .i64 Xd) ∧ ∃ q : Regrown, w' = grow (redrawn w8 q.d) q.os) := by
            intro r c u v h
            rcases h with ⟨rfl, rfl, rfl, rfl⟩ | ⟨rfl, rfl, rfl, rfl⟩
            · exact R13.out
            · exact R13'.out
          clear R13 R13'
          go_wp2
          refine wp_region_quiet_below (by kernel_rfl) (by kernel_rfl) ?_
          repeat (go_big_quiet_step (first | exact R8.out _ _ | exact R9.out _ _ | exact R10.out _ _ | exact G13.out _ _ _ _ (by first | exact .inl ⟨rfl, rfl, rfl, rfl⟩ | exact .inr ⟨rfl, rfl, rfl, rfl⟩) _ _))
          refine wpQuiet_nil ?_
          intro _ hw'
          obtain ⟨⟨dq, osq⟩, hw''⟩ := hw'
          subst hw''
          have gb := below_regrown w8 dq osq
          generalize grow (redrawn w8 dq) osq = w9 at *
          go_wp2
          go_ret
          exact ⟨rfl, hBw.trans (gb.mono hBw.size)⟩
    · by_cases hk1 : k = 0
      · subst hk1
        clear hk hk2
        go_wp2_with (first | (go_at_call 11; refine (T11.out _ _ (PP.out _ hB)).mono ?_; rintro e w5 ⟨r5, c5, R5, rfl, P5, g5⟩; replace hB := hB.trans (g5.mono hB.size); clear g5; have c0 := (KP.out _ hB).c0; have c1 := (KP.out _ hB).c1) | (go_at_call 8; refine (T8.out _ _ _ _ _ P5).mono ?_; rintro e w4 ⟨rfl, g4⟩; replace hB := hB.trans (g4.mono hB.size); replace P5 := P5.mono g4; clear g4; have c0 := (KP.out _ hB).c0; have c1 := (KP.out _ hB).c1) | (go_at_call 9; refine (T9.out _ _ _ _ _ P5).mono ?_; rintro e w4 ⟨rfl, g4⟩; replace hB := hB.trans (g4.mono hB.size); replace P5 := P5.mono g4; clear g4; have c0 := (KP.out _ hB).c0; have c1 := (KP.out _ hB).c1) | (go_at_call 10; refine (T10.out _ _ _ _ _ P5).mono ?_; rintro e w4 ⟨rfl, g4⟩; replace hB := hB.trans (g4.mono hB.size); clear g4))
        exact ⟨⟨1, by omega, rfl, hB⟩, by simp [intOf]⟩
      · have hk3 : k = 1 := by omega
        subst hk3
        clear hk hk2 hk1
        by_cases hw0 : Wd = 0
        · subst hw0
          cases E with
          | true =>
            go_wp2_with (first | (go_at_call 11; refine (T11.out _ _ (PP.out _ hB)).mono ?_; rintro e w5 ⟨r5, c5, R5, rfl, P5, g5⟩; replace hB := hB.trans (g5.mono hB.size); clear g5; have c0 := (KP.out _ hB).c0; have c1 := (KP.out _ hB).c1) | (go_at_call 8; refine (T8.out _ _ _ _ _ P5).mono ?_; rintro e w4 ⟨rfl, g4⟩; replace hB := hB.trans (g4.mono hB.size); replace P5 := P5.mono g4; clear g4; have c0 := (KP.out _ hB).c0; have c1 := (KP.out _ hB).c1) | (go_at_call 9; refine (T9.out _ _ _ _ _ P5).mono ?_; rintro e w4 ⟨rfl, g4⟩; replace hB := hB.trans (g4.mono hB.size); replace P5 := P5.mono g4; clear g4; have c0 := (KP.out _ hB).c0; have c1 := (KP.out _ hB).c1) | (go_at_call 10; refine (T10.out _ _ _ _ _ P5).mono ?_; rintro e w4 ⟨rfl, g4⟩; replace hB := hB.trans (g4.mono hB.size); clear g4))
            exact ⟨⟨2, by omega, rfl, hB⟩, by simp [intOf]⟩
          | false =>
            go_wp2_with (first | (go_at_call 11; refine (T11.out _ _ (PP.out _ hB)).mono ?_; rintro e w5 ⟨r5, c5, R5, rfl, P5, g5⟩; replace hB := hB.trans (g5.mono hB.size); clear g5; have c0 := (KP.out _ hB).c0; have c1 := (KP.out _ hB).c1) | (go_at_call 8; refine (T8.out _ _ _ _ _ P5).mono ?_; rintro e w4 ⟨rfl, g4⟩; replace hB := hB.trans (g4.mono hB.size); replace P5 := P5.mono g4; clear g4; have c0 := (KP.out _ hB).c0; have c1 := (KP.out _ hB).c1) | (go_at_call 9; refine (T9.out _ _ _ _ _ P5).mono ?_; rintro e w4 ⟨rfl, g4⟩; replace hB := hB.trans (g4.mono hB.size); replace P5 := P5.mono g4; clear g4; have c0 := (KP.out _ hB).c0; have c1 := (KP.out _ hB).c1) | (go_at_call 10; refine (T10.out _ _ _ _ _ P5).mono ?_; rintro e w4 ⟨rfl, g4⟩; replace hB := hB.trans (g4.mono hB.size); clear g4))
            exact ⟨⟨2, by omega, rfl, hB⟩, by simp [intOf]⟩
        · have hne : (-Wd != Wd) = true := by simp; omega
          cases E with
          | true =>
            go_wp2_with (first | (go_at_call 11; refine (T11.out _ _ (PP.out _ hB)).mono ?_; rintro e w5 ⟨r5, c5, R5, rfl, P5, g5⟩; replace hB := hB.trans (g5.mono hB.size); clear g5; have c0 := (KP.out _ hB).c0; have c1 := (KP.out _ hB).c1) | (go_at_call 8; refine (T8.out _ _ _ _ _ P5).mono ?_; rintro e w4 ⟨rfl, g4⟩; replace hB := hB.trans (g4.mono hB.size); replace P5 := P5.mono g4; clear g4; have c0 := (KP.out _ hB).c0; have c1 := (KP.out _ hB).c1) | (go_at_call 9; refine (T9.out _ _ _ _ _ P5).mono ?_; rintro e w4 ⟨rfl, g4⟩; replace hB := hB.trans (g4.mono hB.size); replace P5 := P5.mono g4; clear g4; have c0 := (KP.out _ hB).c0; have c1 := (KP.out _ hB).c1) | (go_at_call 10; refine (T10.out _ _ _ _ _ P5).mono ?_; rintro e w4 ⟨rfl, g4⟩; replace hB := hB.trans (g4.mono hB.size); clear g4))
            exact ⟨⟨2, by omega, rfl, hB⟩, by simp [intOf]⟩
          | false =>
            go_wp2_with (first | (go_at_call 11; refine (T11.out _ _ (PP.out _ hB)).mono ?_; rintro e w5 ⟨r5, c5, R5, rfl, P5, g5⟩; replace hB := hB.trans (g5.mono hB.size); clear g5; have c0 := (KP.out _ hB).c0; have c1 := (KP.out _ hB).c1) | (go_at_call 8; refine (T8.out _ _ _ _ _ P5).mono ?_; rintro e w4 ⟨rfl, g4⟩; replace hB := hB.trans (g4.mono hB.size); replace P5 := P5.mono g4; clear g4; have c0 := (KP.out _ hB).c0; have c1 := (KP.out _ hB).c1) | (go_at_call 9; refine (T9.out _ _ _ _ _ P5).mono ?_; rintro e w4 ⟨rfl, g4⟩; replace hB := hB.trans (g4.mono hB.size); replace P5 := P5.mono g4; clear g4; have c0 := (KP.out _ hB).c0; have c1 := (KP.out _ hB).c1) | (go_at_call 10; refine (T10.out _ _ _ _ _ P5).mono ?_; rintro e w4 ⟨rfl, g4⟩; replace hB := hB.trans (g4.mono hB.size); clear g4))
            exact ⟨⟨2, by omega, rfl, hB⟩, by simp [intOf]⟩
end Go.Proofs.Ytpdhknclhpifkab
