/- CellAll: the law's side. -/
import Derived.Test.YtmoddfikhipagaaAr
set_option linter.unusedSimpArgs false
set_option linter.unusedVariables false
namespace Go.Proofs.Ytmoddfikhipagaa
open Go.RowKit Go.Sort Go.Shelf

theorem div_bd {v s : Int} (hs : 1 ≤ s) (h1 : -1073741823 ≤ v) (h2 : v ≤ 1073741823) : -1073741823 ≤ v / s ∧ v / s ≤ 1073741823 := by
  have a := (Int.le_ediv_iff_mul_le (a := -1073741823) (b := v) (c := s) (by omega)).2 (by omega)
  have b := (Int.ediv_lt_iff_lt_mul (a := v) (b := 1073741824) (c := s) (by omega)).2 (by omega)
  omega
theorem gr_at {W W' : World} {a : Addr} {v : Value} (h : ∀ n os, (grow (W.drewN n) os).cell? a = some v) (g : Gr W W') : W'.cell? a = some v := by
  obtain ⟨q, os, rfl⟩ := g
  exact h q os
theorem gr_re {W W' : World} {a : Addr} {v : Value} (h : ∀ n os, (grow (W.drewN n) os).cell? a = some v) (g : Gr W W') : ∀ n os, (grow (W'.drewN n) os).cell? a = some v :=
  cell_gr (gr_at h g)

set_option maxRecDepth 20000 in
set_option maxHeartbeats 8000000 in
theorem side_walk (p q : C2) (s : Int) (hok : (szB s && plB p.1 p.2 && plB q.1 q.2) = true) (w : World) :
    Calls Try.prog 29 #[cv p, cv q, .int .i64 s] w fun e w' => e = .returned (.bool true) ∧ Below w.heap.size w w' := by
  obtain ⟨⟨X, k, st, h, lo, HS⟩, hpm, hqm⟩ := line_side hok
  have HS := hid0 HS
  simp only [Bool.and_eq_true] at hok
  have hp := plB_iff.1 hok.1.2
  have hq := plB_iff.1 hok.2
  have O1 := of_any p.1 p.2 s (by unfold in32; omega) (by unfold in32; omega)
  have O2 := of_any q.1 q.2 s (by unfold in32; omega) (by unfold in32; omega)
  have eo : ∀ x y, ofC x y s = (x / s, y / s) := fun x y => by unfold ofC; rw [if_pos hok.1.1]
  have ee : ofE s = 0 := by unfold ofE; rw [if_pos hok.1.1]
  rw [eo, ee] at O1 O2
  have O1 := hid0 O1
  have O2 := hid0 O2
  have LA := hid0 (line_any p q s)
  have LB := hid0 (line_any q p s)
  have FL := hid0 (fun w bs bp bq => firstLine p q s w bs bp bq)
  have FM := hid0 (fun w bs bp bq => firstLine q p s w bs bp bq)
  rw [line_turned q p s] at FM
  have hMl : ((lineL p q s).take 401).length ≤ 401 := by rw [List.length_take]; omega
  have HM : Hid (((lineL p q s).take 401).length ≤ 400 → (lineL p q s).take 401 = lineL p q s) := fun h => List.take_of_length_le (by rw [List.length_take] at h; omega)
  generalize hL : lineL p q s = L at *
  generalize hM : L.take 401 = M at *
  clear hL hM
  have hab : hol p s = (p.1 / s, p.2 / s) ∧ hol q s = (q.1 / s, q.2 / s) := ⟨rfl, rfl⟩
  rw [hab.1, hab.2] at HS
  rw [hab.1] at hpm
  rw [hab.2] at hqm
  have HB3 : Hid (in32 (p.1 / s) ∧ in32 (q.1 / s) ∧ in32 (p.2 / s) ∧ in32 (q.2 / s)) := ⟨ediv_32 (szB_iff.1 hok.1.1).1 (by unfold in32; omega), ediv_32 (szB_iff.1 hok.1.1).1 (by unfold in32; omega), ediv_32 (szB_iff.1 hok.1.1).1 (by unfold in32; omega), ediv_32 (szB_iff.1 hok.1.1).1 (by unfold in32; omega)⟩
  have HB4 : Hid ((-1073741823 ≤ p.2 / s ∧ p.2 / s ≤ 1073741823) ∧ (-1073741823 ≤ q.2 / s ∧ q.2 / s ≤ 1073741823) ∧ (-1073741823 ≤ p.1 / s ∧ p.1 / s ≤ 1073741823) ∧ (-1073741823 ≤ q.1 / s ∧ q.1 / s ≤ 1073741823)) := by
    have hs := (szB_iff.1 hok.1.1).1
    exact ⟨div_bd hs (by omega) (by omega), div_bd hs (by omega) (by omega), div_bd hs (by omega) (by omega), div_bd hs (by omega) (by omega)⟩
  clear hab eo ee hok hp hq
  have HPQ := hid0 (And.intro hpm hqm)
  clear hpm hqm
  generalize p.1 / s = ax at *
  generalize p.2 / s = ay at *
  generalize q.1 / s = bx' at *
  generalize q.2 / s = by' at *
  have b3 := (Bk.new w 23 [.int .i32 p.1, .int .i32 p.2]).alloc (.cells #[.int .i32 q.1, .int .i32 q.2] 23)
  have b4 := Bk.new (w.alloc (.cells #[.int .i32 p.1, .int .i32 p.2] 23)) 23 [.int .i32 q.1, .int .i32 q.2]
  have g0 : Gr w ((w.alloc (.cells #[.int .i32 p.1, .int .i32 p.2] 23)).alloc (.cells #[.int .i32 q.1, .int .i32 q.2] 23)) := ((Gr.refl _).alloc _).alloc _
  rw [World.size_alloc] at b4
  go_enter Try.func29, Try.ntmps29
  go_upto_region 1 with fail
  generalize (w.alloc (.cells #[.int .i32 p.1, .int .i32 p.2] 23)).alloc (.cells #[.int .i32 q.1, .int .i32 q.2] 23) = W at *
  obtain ⟨p0, p1⟩ := b3.two
  obtain ⟨q0, q1⟩ := b4.two
  go_upto_region 2 with (first
    | (go_at_call 18; refine (LA.out _).mono ?_; rintro e w1 ⟨rfl, c1, c2, c3, g1⟩; clear LA)
    | (go_at_call 16; refine (FL.out _ _ _ _ c3 c1 c2).mono ?_; rintro e w2 ⟨v2, rfl, o2, h2⟩; clear FL))
  clear p0 p1 q0 q1
  obtain ⟨ao, cap, rfl, P2, _⟩ := Pts.of_own o2
  replace b3 := (b3.gr g1).below h2
  replace b4 := (b4.gr g1).below h2
  have hb : Below w.heap.size w w2 := (g0.trans g1).below.trans (h2.mono (g0.trans g1).size)
  clear c1 c2 c3 h2 g0 g1
  by_cases hlen : M.length ≤ 400
  · have eM := HM.out hlen
    subst eM
    clear HM o2
    have hgt : ¬ (M.length : Int) > 400 := by omega
    obtain ⟨p0, p1⟩ := b3.two
    obtain ⟨q0, q1⟩ := b4.two
    go_upto_region 5 with (go_at_call 7; refine (O1.out _).mono ?_; rintro e w4 ⟨rfl, gg⟩; clear O1)
    have m8 := Bk.new w4 26 [.int .i32 ax, .int .i32 ay]
    have hb1 := (hb.trans (gg.below.mono hb.size)).alloc (hb.trans (gg.below.mono hb.size)).size (.cells #[.int .i32 ax, .int .i32 ay] 26)
    replace b3 := (b3.gr gg).alloc (.cells #[.int .i32 ax, .int .i32 ay] 26)
    replace b4 := (b4.gr gg).alloc (.cells #[.int .i32 ax, .int .i32 ay] 26)
    replace P2 := P2.mono (gg.alloc (.cells #[.int .i32 ax, .int .i32 ay] 26)).below
    clear p0 p1 q0 q1 gg hb
    obtain ⟨B8, h8⟩ : ∃ B8, B8 = w4.heap.size := ⟨_, rfl⟩
    rw [← h8] at m8 ⊢
    clear h8
    generalize w4.alloc (.cells #[.int .i32 ax, .int .i32 ay] 26) = W5 at *
    obtain ⟨p0, p1⟩ := b3.two
    obtain ⟨q0, q1⟩ := b4.two
    go_upto_region 6 with (go_at_call 7; refine (O2.out _).mono ?_; rintro e w5 ⟨rfl, gg⟩; clear O2)
    have m10 := Bk.new w5 26 [.int .i32 bx', .int .i32 by']
    have hb2 := (hb1.trans (gg.below.mono hb1.size)).alloc (hb1.trans (gg.below.mono hb1.size)).size (.cells #[.int .i32 bx', .int .i32 by'] 26)
    replace b3 := (b3.gr gg).alloc (.cells #[.int .i32 bx', .int .i32 by'] 26)
    replace b4 := (b4.gr gg).alloc (.cells #[.int .i32 bx', .int .i32 by'] 26)
    replace m8 := (m8.gr gg).alloc (.cells #[.int .i32 bx', .int .i32 by'] 26)
    replace P2 := P2.mono (gg.alloc (.cells #[.int .i32 bx', .int .i32 by'] 26)).below
    clear p0 p1 q0 q1 gg hb1
    obtain ⟨B10, h10⟩ : ∃ B10, B10 = w5.heap.size := ⟨_, rfl⟩
    rw [← h10] at m10 ⊢
    clear h10
    generalize w5.alloc (.cells #[.int .i32 bx', .int .i32 by'] 26) = W6 at *
    have I1 : Hid (∀ w, Pts w ao M → Calls Try.prog 28 #[.slice ao M.length cap, pt ax ay] w fun e w' => e = .returned (.bool true) ∧ Gr w w') := fun w h1 => by
      have := in28_any ao cap M (ax, ay) w (by omega) h1
      rw [decide_eq_true HPQ.out.1] at this
      exact this
    have I2 : Hid (∀ w, Pts w ao M → Calls Try.prog 28 #[.slice ao M.length cap, pt bx' by'] w fun e w' => e = .returned (.bool true) ∧ Gr w w') := fun w h1 => by
      have := in28_any ao cap M (bx', by') w (by omega) h1
      rw [decide_eq_true HPQ.out.2] at this
      exact this
    have SA : Hid (∀ bo cb w, Pts w ao M → Pts w bo M → Calls Try.prog 15 #[.slice ao M.length cap, .slice bo M.length cb] w fun e w' => e = .returned (.bool true) ∧ Gr w w') := fun bo cb w h1 h2 => by
      have := same_any ao bo cap cb M M w (by omega) h1 h2
      rw [decide_eq_true rfl] at this
      exact this
    obtain ⟨y0, y1⟩ := m8.two
    go_wp2_with (first
      | (go_at_call 28; refine (I1.out _ P2).mono ?_; rintro e w7 ⟨rfl, g7⟩; clear I1; have z0 := (m10.gr g7).two.1; have z1 := (m10.gr g7).two.2)
      | (go_at_call 28; refine (I2.out _ (P2.mono g7.below)).mono ?_; rintro e w8 ⟨rfl, g8⟩; clear I2; have u0 := (b4.gr (g7.trans g8)).two.1; have u1 := (b4.gr (g7.trans g8)).two.2; have v0 := (b3.gr (g7.trans g8)).two.1; have v1 := (b3.gr (g7.trans g8)).two.2)
      | (go_at_call 18; refine (LB.out _).mono ?_; rintro e w9 ⟨rfl, c1, c2, c3, g9⟩; clear LB)
      | (go_at_call 16; refine (FM.out _ _ _ _ c3 c1 c2).mono ?_; rintro e w10 ⟨v10, rfl, o10, h10⟩; clear FM))
    obtain ⟨ao10, cap10, rfl, P10, _⟩ := Pts.of_own o10
    have gB : Below W6.heap.size W6 w10 := ((g7.trans g8).trans g9).below.trans (h10.mono ((g7.trans g8).trans g9).size)
    refine (SA.out ao10 cap10 w10 (P2.mono gB) P10).mono ?_
    rintro e w11 ⟨rfl, g11⟩
    have gC : Below W6.heap.size W6 w11 := gB.trans (g11.below.mono gB.size)
    replace m8 := m8.below gC
    replace m10 := m10.below gC
    replace P2 := P2.mono gC
    have hb3 : Below w.heap.size w w11 := hb2.trans (gC.mono hb2.size)
    clear y0 y1 z0 z1 u0 u1 v0 v1 c1 c2 c3 o10 P10 h10 gB gC g7 g8 g9 g11 b3 b4 hb2 SA HPQ
    dsimp only
    go_wp2
    go_loopw [12, 13, 14] (fun lw hg iv wr => ∃ n : Nat, n ≤ M.length ∧ iv = .int .i64 n ∧ Hid ((n = 0 → lw = .int .i64 0 ∧ hg = .int .i64 0) ∧ (0 < n → ∃ c j : Nat, c ≤ k ∧ j ≤ h c ∧ n = st c + j + 1 ∧ lw = .int .i64 (st c : Nat) ∧ hg = .int .i64 (st c + j : Nat))) ∧ Gr w11 wr) (fun _ _ iv _ => M.length - (intOf iv).toNat)
    case atStart => exact ⟨0, by omega, rfl, ⟨fun _ => ⟨rfl, rfl⟩, fun h => by omega⟩, Gr.refl _⟩
    case round =>
      obtain ⟨n, hn, rfl, HR, hG⟩ := hrel
      by_cases hlt : n < M.length
      · obtain ⟨b, off, rfl, p0, p1⟩ := P2 n hlt
        have F : min ax bx' ≤ (M.getD n (0, 0)).1 ∧ (M.getD n (0, 0)).1 ≤ max ax bx' ∧ min ay by' ≤ (M.getD n (0, 0)).2 ∧ (M.getD n (0, 0)).2 ≤ max ay by' := by
          obtain ⟨i, j, hi, hj, e⟩ := HS.out.of n hlt
          have h1 := HS.out.inX
          have h2 := HS.out.inY i hi
          rw [e, HS.out.ats i j hi hj]
          dsimp only at *
          omega
        generalize hx : (M.getD n (0, 0)).1 = x at *
        generalize hy : (M.getD n (0, 0)).2 = y at *
        replace p0 := below_cell p0 hG.below
        replace p1 := below_cell p1 hG.below
        have m8' := m8.gr hG
        have m10' := m10.gr hG
        obtain ⟨y0, y1⟩ := m8'.two
        obtain ⟨z0, z1⟩ := m10'.two
        have hlt' : (n : Int) < (M.length : Int) := by omega
        have F1 : ¬ (x < min ax bx') := by omega
        have F2 : ¬ (x > max ax bx') := by omega
        have F3 : ¬ (y < min ay by') := by omega
        have F4 : ¬ (y > max ay by') := by omega
        have HF := hid0 F
        clear F
        go_upto_region 13 with fail
        have HP := hid0 (And.intro p0 (And.intro p1 (And.intro m8' m10')))
        replace p0 := cell_gr p0
        replace p1 := cell_gr p1
        replace y0 := cell_gr y0
        replace y1 := cell_gr y1
        replace z0 := cell_gr z0
        replace z1 := cell_gr z1
        clear m8' m10'
        have x64 : wrap64 x = x := w64_32 (by have := HB3.out; have := HF.out; unfold in32 at *; omega)
        have D1 : decide (x < wrap64 (if bx' < ax then bx' else ax)) = false := by
          have := HB3.out; have := HF.out
          rw [w64_32 (by split <;> (unfold in32 at *; omega))]
          exact decide_eq_false (by split <;> omega)
        have D2 : decide (x > if ax < bx' then bx' else ax) = false := decide_eq_false (by split <;> omega)
        have D3 : decide (y < if by' < ay then by' else ay) = false := decide_eq_false (by split <;> omega)
        have D4 : decide (y > if ay < by' then by' else ay) = false := decide_eq_false (by split <;> omega)
        clear F1 F2 F3 F4
        refine wp_region_quiet_grown (by kernel_rfl) (by kernel_rfl) ?_
        repeat (go_big_quiet_step (fail))
        refine wpQuiet_nil ?_
        intro _ hw'
        obtain ⟨⟨nq, osq⟩, hw''⟩ := hw'
        subst hw''
        have gg : Gr wr (grow (wr.drewN nq) osq) := ⟨nq, osq, rfl⟩
        obtain ⟨p0', p1', m8', m10'⟩ := HP.out
        clear p0 p1 y0 y1 z0 z1 HP D1 D2 D3 D4
        replace hG := hG.trans gg
        replace m8' := m8'.gr gg
        replace m10' := m10'.gr gg
        clear gg p0' p1'
        generalize grow (wr.drewN nq) osq = W9 at *
        generalize (if bx' < ax then bx' else ax) = mm1
        generalize (if ax < bx' then bx' else ax) = mm2
        generalize (if by' < ay then by' else ay) = mm3
        generalize (if ay < by' then by' else ay) = mm4
        by_cases hn0 : n = 0
        · subst hn0
          obtain ⟨rfl, rfl⟩ := HR.out.1 rfl
          clear HR
          go_wp2
          go_roundw
          case rel =>
            refine ⟨1, by omega, by go_num, ⟨fun h => by omega, fun _ => ⟨0, 0, by omega, by omega, ?_, ?_, ?_⟩⟩, hG⟩
            · rw [HS.out.st0]
            · rw [HS.out.st0]; rfl
            · rw [HS.out.st0]; rfl
          case measure => simp [intOf]; omega
        · have hne : ((n : Int) == 0) = false := beq_eq_false_iff_ne.2 (by omega)
          obtain ⟨c, j, hc, hj, en, hl1, hl2⟩ := HR.out.2 (by omega)
          clear HR
          obtain ⟨lw', elw⟩ : ∃ m : Nat, m = st c := ⟨_, rfl⟩
          obtain ⟨hg', ehg⟩ : ∃ m : Nat, m = st c + j := ⟨_, rfl⟩
          rw [← elw] at hl1
          rw [← ehg] at hl2
          subst hl1
          subst hl2
          have hm : n - 1 = st c + j := by omega
          have em := HS.out.ats c j hc hj
          rw [← hm] at em
          obtain ⟨b', off', eb, r0, r1⟩ := P2 (n - 1) (by omega)
          cases eb
          obtain ⟨b'', off'', eb, p0, p1⟩ := P2 n hlt
          cases eb
          rw [em] at r0 r1
          rw [hx] at p0
          rw [hy] at p1
          dsimp only at r0 r1
          replace r0 := cell_gr (below_cell r0 hG.below)
          replace r1 := cell_gr (below_cell r1 hG.below)
          replace p0 := cell_gr (below_cell p0 hG.below)
          replace p1 := cell_gr (below_cell p1 hG.below)
          have HC := hid0 (And.intro hc (And.intro hj (And.intro en (And.intro hm (And.intro elw ehg)))))
          clear elw ehg
          by_cases hjc : j < h c
          · have e1 := HS.out.ats c (j + 1) hc (by omega)
            rw [show st c + (j + 1) = n by omega] at e1
            rw [e1] at hx hy
            dsimp only at hx hy
            have eX : X + (c : Int) = x := hx
            have eY : wrap32 (lo c + (j : Int) + 1) = y := by
              have := HB3.out; have := HF.out
              rw [w32_eq (by unfold in32 at *; omega)]; omega
            rw [eX] at r0
            generalize lo c + (j : Int) = y' at *
            clear eX hx hy e1 em hc hj en hm
            go_upto_region 16 with fail
            refine wp_region_quiet_grown (by kernel_rfl) (by kernel_rfl) ?_
            repeat (go_big_quiet_step (fail))
            refine wpQuiet_nil ?_
            intro _ hw'
            obtain ⟨⟨nq, osq⟩, hw''⟩ := hw'
            subst hw''
            have gg : Gr W9 (grow (W9.drewN nq) osq) := ⟨nq, osq, rfl⟩
            replace hG := hG.trans gg
            replace p1 := gr_re p1 gg
            replace r1 := gr_re r1 gg
            clear p0 r0 m8' m10' gg
            generalize grow (W9.drewN nq) osq = W10 at *
            go_upto_region 17 with fail
            refine wp_region_quiet_grown (by kernel_rfl) (by kernel_rfl) ?_
            repeat (go_big_quiet_step (fail))
            refine wpQuiet_nil ?_
            intro _ hw'
            obtain ⟨⟨nq, osq⟩, hw''⟩ := hw'
            subst hw''
            have gg : Gr W10 (grow (W10.drewN nq) osq) := ⟨nq, osq, rfl⟩
            replace hG := hG.trans gg
            clear p1 r1 gg
            generalize grow (W10.drewN nq) osq = W11 at *
            go_wp2
            go_roundw
            case rel =>
              obtain ⟨hc, hj, en, hm, elw, ehg⟩ := HC.out
              refine ⟨n + 1, by omega, by go_num, ⟨fun h => by omega, fun _ => ⟨c, j + 1, hc, by omega, by omega, by rw [elw], ?_⟩⟩, hG⟩
              rw [show st c + (j + 1) = n by omega]
            case measure => simp [intOf]; omega
          · obtain ⟨hck, hstn⟩ : c < k ∧ n = st (c + 1) := by
              have e1 := HS.out.stS c
              have hjj : j = h c := by omega
              refine ⟨?_, by omega⟩
              by_cases h : c < k
              · exact h
              · have ek : c = k := by omega
                have := HS.out.len
                rw [← ek] at this
                omega
            have e1 := HS.out.ats (c + 1) 0 (by omega) (by omega)
            rw [Nat.add_zero, ← hstn] at e1
            have hjj : j = h c := by omega
            rw [e1] at hx hy
            dsimp only at hx hy
            have tch := HS.out.touch c hck
            obtain ⟨_, _, eb, l0, l1⟩ := P2 lw' (by have := HC.out; omega)
            cases eb
            obtain ⟨_, _, eb, g0, g1⟩ := P2 hg' (by have := HC.out; omega)
            cases eb
            rw [show M.getD lw' (0, 0) = (X + (c : Int), lo c) by rw [HC.out.2.2.2.2.1]; exact (HS.out.ats c 0 hc (by omega)).trans (by simp)] at l1
            rw [show M.getD hg' (0, 0) = (X + (c : Int), lo c + (j : Int)) by rw [HC.out.2.2.2.2.2]; exact HS.out.ats c j hc hj] at g1
            dsimp only at l1 g1
            have iY := HS.out.inY c hc
            dsimp only at iY
            have HT : ∀ t : Nat, t ≤ h (c + 1) → M.getD (n + t) (0, 0) = (x, y + (t : Int)) := fun t ht => by
              rw [hstn, HS.out.ats (c + 1) t (by omega) ht, ← hx, ← hy]
              apply Prod.ext <;> dsimp only <;> omega
            replace HT := hid0 HT
            have HU : n + h (c + 1) + 1 < M.length → ∃ z, M.getD (n + h (c + 1) + 1) (0, 0) = (x + 1, z) := fun hh => by
              have e2 := HS.out.stS (c + 1)
              have e3 := HS.out.len
              by_cases h : c + 1 < k
              · refine ⟨lo (c + 2), ?_⟩
                have := HS.out.ats (c + 2) 0 (by omega) (by omega)
                rw [Nat.add_zero, e2, ← hstn] at this
                rw [this, ← hx]
                apply Prod.ext <;> dsimp only <;> omega
              · have ek : c + 1 = k := by omega
                rw [← ek, e2, ← hstn] at e3
                omega
            replace HU := hid0 HU
            have HL : n + h (c + 1) < M.length := by
              have e2 : st (c + 2) = st (c + 1) + h (c + 1) + 1 := HS.out.stS (c + 1)
              have e3 := HS.out.len
              have mono : ∀ m, c + 2 ≤ m → st (c + 2) ≤ st m := by
                intro m hm
                induction m with
                | zero => omega
                | succ m ih =>
                  by_cases e : c + 2 = m + 1
                  · rw [e]; exact Nat.le_refl _
                  · have := ih (by omega)
                    have := HS.out.stS m
                    omega
              have := mono (k + 1) (by omega)
              omega
            replace HL := hid0 HL
            have eX : wrap32 (X + (c : Int) + 1) = x := by
              have := HB3.out; have := HF.out
              rw [w32_eq (by unfold in32 at *; omega)]; omega
            have nX : ((x : Int) == X + (c : Int)) = false := beq_eq_false_iff_ne.2 (by omega)
            have YH : ∃ yh1, wrap32 (lo c + (j : Int) + 1) = yh1 ∧ decide (y > yh1) = false := by
              have := HB4.out
              refine ⟨_, rfl, ?_⟩
              rw [w32_eq (by unfold in32 at *; omega)]
              exact decide_eq_false (by omega)
            obtain ⟨yh1, eh1, dh1⟩ := YH
            have YL : ∃ yl1, wrap32 (lo c - 1) = yl1 ∧ decide (y + (h (c + 1) : Int) < yl1) = false := by
              have := HB4.out
              refine ⟨_, rfl, ?_⟩
              rw [w32_eq (by unfold in32 at *; omega)]
              exact decide_eq_false (by omega)
            obtain ⟨yl1, el1, dl1⟩ := YL
            replace l1 := cell_gr (below_cell l1 hG.below)
            replace g1 := cell_gr (below_cell g1 hG.below)
            have HK := hid0 (show c + 1 ≤ k by omega)
            clear l0 g0 r1 tch iY e1 em hx hy hck hstn hjj hc hj en hm
            generalize X + (c : Int) = x' at *
            generalize lo c + (j : Int) = yh at *
            generalize lo c = yl at *
            generalize hH : h (c + 1) = H at *
            clear hH
            go_upto_region 16 with fail
            refine wp_region_quiet_grown (by kernel_rfl) (by kernel_rfl) ?_
            repeat (go_big_quiet_step (fail))
            refine wpQuiet_nil ?_
            intro _ hw'
            obtain ⟨⟨nq, osq⟩, hw''⟩ := hw'
            subst hw''
            have gg : Gr W9 (grow (W9.drewN nq) osq) := ⟨nq, osq, rfl⟩
            replace hG := hG.trans gg
            replace p0 := gr_at p0 gg
            replace p1 := gr_at p1 gg
            replace r0 := gr_at r0 gg
            replace l1 := gr_at l1 gg
            replace g1 := gr_at g1 gg
            clear m8' m10' gg
            generalize grow (W9.drewN nq) osq = W10 at *
            go_wp2
            clear nX
            go_loopw [15] (fun tv wt => ∃ t : Nat, t ≤ H ∧ tv = .int .i64 (n + t : Nat) ∧ Gr W10 wt) (fun tv _ => M.length - (intOf tv).toNat)
            case atStart => exact ⟨0, by omega, rfl, Gr.refl _⟩
            case round =>
              obtain ⟨t, ht, rfl, hGt⟩ := hrel
              generalize em : n + t = m
              have hml : m < M.length := by have := HL.out; omega
              replace p0 := cell_gr (below_cell p0 hGt.below)
              by_cases htH : t < H
              · have hm1 : (m : Int) + 1 < (M.length : Int) := by have := HL.out; omega
                obtain ⟨_, _, eb, t0, t1⟩ := P2 (m + 1) (by omega)
                cases eb
                rw [show M.getD (m + 1) (0, 0) = (x, y + ((t + 1 : Nat) : Int)) by rw [← em]; exact HT.out (t + 1) (by omega)] at t0
                replace t0 := cell_gr (below_cell (below_cell t0 hG.below) hGt.below)
                clear t1
                dsimp only at t0
                go_upto_region 21 with fail
                refine wp_region_quiet_grown (by kernel_rfl) (by kernel_rfl) ?_
                repeat (go_big_quiet_step (fail))
                refine wpQuiet_nil ?_
                intro _ hw'
                obtain ⟨⟨nq, osq⟩, hw''⟩ := hw'
                subst hw''
                have gg : Gr wr (grow (wr.drewN nq) osq) := ⟨nq, osq, rfl⟩
                replace hGt := hGt.trans gg
                clear p0 t0 gg
                generalize grow (wr.drewN nq) osq = W11 at *
                go_wp2
                go_roundw
                case rel => exact ⟨t + 1, by omega, by rw [show n + (t + 1) = m + 1 by omega]; go_num, hGt⟩
                case measure => simp [intOf]; omega
              · have etH : t = H := by omega
                subst etH
                obtain ⟨_, _, eb, t0, t1⟩ := P2 m (by omega)
                cases eb
                rw [show M.getD m (0, 0) = (x, y + (t : Int)) by rw [← em]; exact HT.out t (by omega)] at t1
                replace t1 := cell_gr (below_cell (below_cell t1 hG.below) hGt.below)
                replace p1 := cell_gr (below_cell p1 hGt.below)
                replace r0 := cell_gr (below_cell r0 hGt.below)
                replace l1 := cell_gr (below_cell l1 hGt.below)
                replace g1 := cell_gr (below_cell g1 hGt.below)
                clear t0
                dsimp only at t1
                generalize y + (t : Int) = yt at *
                have hnl : n - 1 < M.length := by omega
                have hll : lw' < M.length := by have := HC.out; omega
                have hgl : hg' < M.length := by have := HC.out; omega
                by_cases hm1 : m + 1 < M.length
                · have hm1' : (m : Int) + 1 < (M.length : Int) := by omega
                  obtain ⟨z, ez⟩ := HU.out (by omega)
                  obtain ⟨_, _, eb, s0, s1⟩ := P2 (m + 1) (by omega)
                  cases eb
                  rw [show m + 1 = n + t + 1 by omega, ez, ← show m + 1 = n + t + 1 by omega] at s0
                  replace s0 := cell_gr (below_cell (below_cell s0 hG.below) hGt.below)
                  clear s1 ez
                  dsimp only at s0
                  have nX2 : ((x + 1 : Int) == x) = false := beq_eq_false_iff_ne.2 (by omega)
                  generalize x + 1 = x2 at *
                  go_upto_region 21 with fail
                  refine wp_region_quiet_grown (by kernel_rfl) (by kernel_rfl) ?_
                  repeat (go_big_quiet_step (fail))
                  refine wpQuiet_nil ?_
                  intro _ hw'
                  obtain ⟨⟨nq, osq⟩, hw''⟩ := hw'
                  subst hw''
                  have gg : Gr wr (grow (wr.drewN nq) osq) := ⟨nq, osq, rfl⟩
                  replace p0 := gr_re p0 gg
                  replace p1 := gr_re p1 gg
                  replace r0 := gr_re r0 gg
                  replace l1 := gr_re l1 gg
                  replace g1 := gr_re g1 gg
                  replace t1 := gr_re t1 gg
                  replace hGt := hGt.trans gg
                  clear gg
                  generalize grow (wr.drewN nq) osq = W11 at *
                  go_upto_region 23 with fail
                  refine wp_region_quiet_grown (by kernel_rfl) (by kernel_rfl) ?_
                  repeat (go_big_quiet_step (fail))
                  refine wpQuiet_nil ?_
                  intro _ hw'
                  obtain ⟨⟨nq, osq⟩, hw''⟩ := hw'
                  subst hw''
                  have gg : Gr W11 (grow (W11.drewN nq) osq) := ⟨nq, osq, rfl⟩
                  replace hG := hG.trans (hGt.trans gg)
                  clear p0 p1 r0 l1 g1 t1 gg hGt
                  generalize grow (W11.drewN nq) osq = W12 at *
                  go_wp2
                  go_roundw
                  case rel =>
                    obtain ⟨hc, hj, en, hm, elw, ehg⟩ := HC.out
                    have e1 := HS.out.stS c
                    refine ⟨n + 1, by omega, by go_num, ⟨fun h => by omega, fun _ => ⟨c + 1, 0, HK.out, by omega, by omega, ?_, ?_⟩⟩, hG⟩
                    · rw [show st (c + 1) = n by omega]
                    · rw [show st (c + 1) + 0 = n by omega]
                  case measure => simp [intOf]; omega
                · have hm1' : ¬ (m : Int) + 1 < (M.length : Int) := by omega
                  go_upto_region 21 with fail
                  refine wp_region_quiet_grown (by kernel_rfl) (by kernel_rfl) ?_
                  repeat (go_big_quiet_step (fail))
                  refine wpQuiet_nil ?_
                  intro _ hw'
                  obtain ⟨⟨nq, osq⟩, hw''⟩ := hw'
                  subst hw''
                  have gg : Gr wr (grow (wr.drewN nq) osq) := ⟨nq, osq, rfl⟩
                  replace p0 := gr_re p0 gg
                  replace p1 := gr_re p1 gg
                  replace r0 := gr_re r0 gg
                  replace l1 := gr_re l1 gg
                  replace g1 := gr_re g1 gg
                  replace t1 := gr_re t1 gg
                  replace hGt := hGt.trans gg
                  clear gg
                  generalize grow (wr.drewN nq) osq = W11 at *
                  go_upto_region 23 with fail
                  refine wp_region_quiet_grown (by kernel_rfl) (by kernel_rfl) ?_
                  repeat (go_big_quiet_step (fail))
                  refine wpQuiet_nil ?_
                  intro _ hw'
                  obtain ⟨⟨nq, osq⟩, hw''⟩ := hw'
                  subst hw''
                  have gg : Gr W11 (grow (W11.drewN nq) osq) := ⟨nq, osq, rfl⟩
                  replace hG := hG.trans (hGt.trans gg)
                  clear p0 p1 r0 l1 g1 t1 gg hGt
                  generalize grow (W11.drewN nq) osq = W12 at *
                  go_wp2
                  go_roundw
                  case rel =>
                    obtain ⟨hc, hj, en, hm, elw, ehg⟩ := HC.out
                    have e1 := HS.out.stS c
                    refine ⟨n + 1, by omega, by go_num, ⟨fun h => by omega, fun _ => ⟨c + 1, 0, HK.out, by omega, by omega, ?_, ?_⟩⟩, hG⟩
                    · rw [show st (c + 1) = n by omega]
                    · rw [show st (c + 1) + 0 = n by omega]
                  case measure => simp [intOf]; omega
      · obtain rfl : n = M.length := by omega
        clear HR
        go_wp2
        go_ret
        exact ⟨rfl, hb3.trans (hG.below.mono hb3.size)⟩
  · have hgt : (M.length : Int) > 400 := by omega
    clear HM HS HPQ
    go_wp2
    go_ret
    exact ⟨rfl, hb⟩
end Go.Proofs.Ytmoddfikhipagaa
