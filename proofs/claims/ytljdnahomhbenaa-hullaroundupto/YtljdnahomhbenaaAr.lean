/- The law HullAround, walked. -/
import Derived.Test.YtljdnahomhbenaaLh
namespace Go.Proofs.Ytljdnahomhbenaa
section
set_option linter.unusedSimpArgs false
open Go.RowKit Go.Sort Go.Lib Go.Shelf

theorem cmp_least {a b : Int × Int} (h : b = a ∨ lx a b) : decide (0 < cmpP a.1 a.2 b.1 b.2) = false := by
  rw [decide_eq_false_iff_not]
  unfold cmpP cmpI
  rcases h with rfl | h
  · simp
  · unfold lx at h
    split <;> (repeat' split) <;> omega
theorem rcmp_below (a b : Int × Int) (w : World) : Calls Try.prog 24 #[pt a.1 a.2, pt b.1 b.2] w fun e w' => e = .returned (.int .i64 (cmpP a.1 a.2 b.1 b.2)) ∧ Below w.heap.size w w' :=
  (rcmp_any a.1 a.2 b.1 b.2 w).mono fun _ _ h => ⟨h.1, h.2.below⟩
theorem rcmp_re (a b : Int × Int) (w : World) : ∀ d os, Calls Try.prog 24 #[pt a.1 a.2, pt b.1 b.2] (grow (redrawn w d) os) fun e w' => e = .returned (.int .i64 (cmpP a.1 a.2 b.1 b.2)) ∧ ∃ p : Regrown, w' = grow (redrawn w p.d) p.os :=
  fun d os => Calls.regrown_of (rcmp_below a b (grow (redrawn w d) os))
theorem lhas_re (vo : Option Addr) (cv : Nat) (l : List (Int × Int)) (p : Int × Int) (w : World) (hl : l.length ≤ 17592186043904) (hm : p ∈ l) (hP : Pts w vo l) :
    ∀ d os, Calls Try.prog 20 #[.slice vo l.length cv, pt p.1 p.2] (grow (redrawn w d) os) fun e w' => e = .returned (.bool true) ∧ ∃ p : Regrown, w' = grow (redrawn w p.d) p.os :=
  fun d os => Calls.regrown_of (lhas_any vo cv l p (grow (redrawn w d) os) hl hm (hP.mono (below_regrown w d os)))
theorem rturn_re (a b c : Int × Int) (w : World) (h0 : in2 a) (h1 : in2 b) (h2 : in2 c) :
    ∀ d os, Calls Try.prog 25 #[pt a.1 a.2, pt b.1 b.2, pt c.1 c.2] (grow (redrawn w d) os) fun e w' => e = .returned (.int .i64 (crT a b c)) ∧ ∃ p : Regrown, w' = grow (redrawn w p.d) p.os :=
  fun d os => Calls.regrown_of (rturn_any a.1 a.2 b.1 b.2 c.1 c.2 h0.1 h0.2 h1.1 h1.2 h2.1 h2.2 (grow (redrawn w d) os))
theorem hull_least {l : List (Int × Int)} {i : Nat} (hi : i < (hullL (srt l)).length) : (hullL (srt l)).getD i (0, 0) = (hullL (srt l)).getD 0 (0, 0) ∨ lx ((hullL (srt l)).getD 0 (0, 0)) ((hullL (srt l)).getD i (0, 0)) := by
  by_cases c : 2 ≤ (srt l).length
  · obtain ⟨x0, xs, e0, eH, C⟩ := hull_cyc (srt_asc l) c
    rw [eH] at hi ⊢
    have e : (x0 :: xs).getD 0 (0, 0) = x0 := rfl
    rw [e]
    exact head_least (srt_asc l) e0 _ (C.sub _ (by rw [getD_eq _ _ hi]; exact List.getElem_mem hi))
  · have e : hullL (srt l) = srt l := by
      cases h : srt l with
      | nil => rfl
      | cons a r => cases r with
        | nil => rfl
        | cons b r => rw [h] at c; simp at c
    rw [e] at hi ⊢
    obtain rfl : i = 0 := by omega
    exact Or.inl rfl
theorem hull_turns {l : List (Int × Int)} (h3 : 2 < (hullL (srt l)).length) (i : Nat) : 0 < cr (cAt (hullL (srt l)) i) (cAt (hullL (srt l)) (i + 1)) (cAt (hullL (srt l)) (i + 2)) := by
  by_cases c : 2 ≤ (srt l).length
  · obtain ⟨x0, xs, e0, eH, C⟩ := hull_cyc (srt_asc l) c
    rw [eH] at h3 ⊢
    have h3' : 2 < xs.length + 1 := h3
    exact cyc_turns C (by omega) i
  · have := hull_len (srt_asc l)
    omega

set_option maxRecDepth 100000 in
set_option maxHeartbeats 32000000 in
theorem around_walk (vo wo : Option Addr) (cv cw : Nat) (v u : List (Int × Int)) (n : Int) (w : World) (hv : v.length ≤ 1048576) (hu : u.length ≤ 1048576) (hn : vo = none → v.length = 0 ∧ cv = 0) (h32 : ∀ p ∈ v, in2 p) (u32 : ∀ p ∈ u, in2 p) (hP : Pts w vo v) (hU : Pts w wo u) :
    Calls Try.prog 7 #[.slice vo v.length cv, .slice wo u.length cw, .int .i64 n] w fun e w' => e = .returned (.bool true) ∧ Below w.heap.size w w' := by
  obtain ⟨i0, hi, hz0, hz1, hz2⟩ := info_parts Try.info28
  have L1 := hid0 (hull_raw vo cv v w (by omega) h32 hP)
  have HL : (hullL (srt v)).length ≤ v.length := Nat.le_trans (hull_len (srt_asc v)) (srt_len v)
  have HI := hid0 (hull_in h32)
  have HF := hid0 (hull_fix v)
  have H32 := hid0 h32
  have U32 := hid0 u32
  have HLE := hid0 (fun i (h : i < (hullL (srt v)).length) => hull_least (l := v) h)
  have HTU := hid0 (fun (h : 2 < (hullL (srt v)).length) i => hull_turns (l := v) h i)
  have HPO := hid0 (fun (h : 0 < v.length) => hull_pos (l := v) h)
  have HOW : Hid (∀ p ∈ v, hasH (hullL (srt v)) p = true) := fun p hp => has_own hp
  have HAL : Hid (∀ m : List (Int × Int), (∀ q ∈ m, q ∈ v ∨ hasH (hullL (srt v)) q = true) → (∀ q ∈ v, q ∈ m) → hullL (srt m) = hullL (srt v)) := fun m a b => hull_all a b
  have HSU : Hid (∀ p ∈ hullL (srt v), p ∈ v) := fun p hp => (srt_mem v p).mp (hull_sub (srt_asc v) p hp)
  have HP := hid0 hP
  have HU := hid0 hU
  obtain ⟨H, hH⟩ : ∃ H, hullL (srt v) = H := ⟨_, rfl⟩
  have HE : Hid (∀ m : List (Int × Int), srt m = srt v → hullL (srt m) = H) := fun m e => by rw [e, hH]
  rw [hH] at L1 HL HI HF HLE HTU HPO HOW HAL HSU
  clear hH h32 u32 hP hU
  have HN := hid0 hn
  clear hn
  go_enter Try.func7, Try.ntmps7
  go_wp2_with fail
  refine L1.out.mono ?_
  rintro e w1 ⟨sv, rfl, O1, hb1⟩
  obtain ⟨ro, rc, rfl, PR, -, hrn, hrs⟩ := own_all O1
  have PR1 := hid0 PR
  have PV1 := hid0 (HP.out.mono hb1)
  have PU1 := hid0 (HU.out.mono hb1)
  have hsz1 := hb1.size
  have HULL : Hid (∀ W, Below w1.heap.size w1 W → Calls Try.prog 11 #[.slice ro H.length rc] W fun e w' => ∃ so c, e = .returned (.slice so H.length c) ∧ w'.ownsRow w1.heap.size 28 2 (.slice so H.length c) H.length (flat H) ∧ Below w1.heap.size W w') := fun W hB => by
    refine (hull_raw ro rc H W (by omega) HI.out (PR1.out.mono hB)).mono ?_
    rintro e w' ⟨sv, rfl, h1, h2⟩
    rw [HF.out] at h1
    obtain ⟨so, c, rfl⟩ := own_any h1
    exact ⟨so, c, rfl, own_base h1 hB.size, h2.mono hB.size⟩
  have HULLM : Hid (∀ W (m : List (Int × Int)) sv, Below w1.heap.size w1 W → W.ownsRow w1.heap.size 28 2 sv m.length (flat m) → m.length ≤ 4194304 → (∀ q ∈ m, in2 q) → hullL (srt m) = H → Calls Try.prog 11 #[sv] W fun e w' => ∃ so c, e = .returned (.slice so H.length c) ∧ w'.ownsRow w1.heap.size 28 2 (.slice so H.length c) H.length (flat H) ∧ Below w1.heap.size W w') := fun W m sv hB hO hl hm he => by
    obtain ⟨mo, mc, rfl, PM, hML, -, -⟩ := own_all hO
    refine (hull_raw mo mc m W (by omega) hm PM).mono ?_
    rintro e w' ⟨sv, rfl, h1, h2⟩
    rw [he] at h1
    obtain ⟨so, c, rfl⟩ := own_any h1
    exact ⟨so, c, rfl, own_base h1 hB.size, h2.mono hB.size⟩
  have SAME : Hid (∀ W so c, Below w1.heap.size w1 W → W.ownsRow w1.heap.size 28 2 (.slice so H.length c) H.length (flat H) → Calls Try.prog 12 #[.slice so H.length c, .slice ro H.length rc] W fun e w' => e = .returned (.bool true) ∧ Gr W w') := fun W so c hB hO => by
    obtain ⟨ro', rc', e, PR', -⟩ := own_pts hO
    cases e
    have h := same12_any so ro c rc H H W (by omega) PR' (PR1.out.mono hB)
    simpa using h
  have TURN : Hid (∀ W, Below w1.heap.size w1 W → Calls Try.prog 23 #[.slice vo v.length cv, .int .i64 n] W fun e w' => ∃ so c T, e = .returned (.slice so (List.length T) c) ∧ w'.ownsRow w1.heap.size 28 2 (.slice so (List.length T) c) T.length (flat T) ∧ (∀ p, p ∈ T ↔ p ∈ v) ∧ T.length ≤ v.length + 1 ∧ Below w1.heap.size W w') := fun W hB => by
    refine (turned_any vo cv v hv n W (PV1.out.mono hB)).mono ?_
    rintro e w' ⟨sv, T, rfl, h1, h2, h3, h4⟩
    obtain ⟨so, c, rfl⟩ := own_any h1
    exact ⟨so, c, T, rfl, own_base h1 hB.size, h2, h3, h4.mono hB.size⟩
  have CONV : Hid (∀ W, Below w1.heap.size w1 W → Calls Try.prog 13 #[.slice ro H.length rc] W fun e w' => e = .returned (.bool true) ∧ Below W.heap.size W w') := fun W hB => by
    have := convex_any ro rc H W (by omega) hrn hrs HI.out (PR1.out.mono hB)
    rw [HF.out, decide_eq_true rfl] at this
    exact this
  have HAS : Hid (∀ W p, in2 p → Below w1.heap.size w1 W → Calls Try.prog 16 #[.slice ro H.length rc, pt p.1 p.2] W fun e w' => e = .returned (.bool (hasH H p)) ∧ Below W.heap.size W w') := fun W p hp hB =>
    has_any10 ro rc H p W (by omega) hrn hrs HI.out hp (PR1.out.mono hB)
  clear L1 O1 PR hrn hrs HP HU HF
  generalize hnH : H.length = nH at *
  have HNH := hid0 hnH
  clear hnH
  generalize hnV : v.length = nV at *
  have HNV := hid0 hnV
  clear hnV
  have hcase : (¬ 0 < nV) ∨ (0 < nV ∧ ((nH : Int) == 0) = false) := by
    by_cases c : 0 < nV
    · refine Or.inr ⟨c, beq_eq_false_iff_ne.mpr ?_⟩
      have := HPO.out c
      omega
    · exact Or.inl c
  clear HPO
  have hB := Below.refl w1.heap.size w1
  go_upto_region 2 with fail
  go_cut [42] (fun s w' => s = .bool false ∧ Below w1.heap.size w1 w')
  case first =>
    go_wp2_with fail
    refine (HULL.out _ hB).mono ?_
    rintro e w2 ⟨so2, c2, rfl, O2, hb2⟩
    replace hB := hB.trans hb2
    clear hb2
    go_wp2_with fail
    refine (SAME.out _ _ _ hB O2).mono ?_
    rintro e w3 ⟨rfl, gr⟩
    replace hB := hB.trans (gr.below.mono hB.size)
    clear gr O2
    go_wp2_with fail
    refine (TURN.out _ hB).mono ?_
    rintro e w4 ⟨so4, c4, T, rfl, O4, hT, hTl, hb4⟩
    replace hB := hB.trans hb4
    have L5 := hid0 (HULLM.out w4 T _ hB O4 (by omega) (fun q hq => H32.out q ((hT q).mp hq)) (HE.out T (asc_eq (srt_asc T) (srt_asc v) fun p => by rw [srt_mem, srt_mem, hT])))
    clear hb4 O4 hT hTl HE
    go_wp2_with fail
    refine L5.out.mono ?_
    rintro e w5 ⟨so5, c5, rfl, O5, hb5⟩
    replace hB := hB.trans hb5
    clear hb5 L5
    go_wp2_with fail
    refine (SAME.out _ _ _ hB O5).mono ?_
    rintro e w6 ⟨rfl, gr⟩
    replace hB := hB.trans (gr.below.mono hB.size)
    clear gr O5
    go_wp2_with fail
    refine (CONV.out _ hB).mono ?_
    rintro e w7 ⟨rfl, hb7⟩
    replace hB := hB.trans (hb7.mono hB.size)
    clear hb7
    rcases hcase with d1 | ⟨d1, d2⟩
    all_goals
      go_wp2
      go_meet
      exact ⟨rfl, hB⟩
  case rest =>
    obtain ⟨rfl, hcut⟩ := hcut
    replace hB := hcut
    clear hcut
    clear CONV TURN HULL HE hcase
    go_wp2
    go_loopw [8] (fun i wr => ∃ k : Nat, k ≤ nV ∧ i = .int .i64 k ∧ Below w1.heap.size w1 wr) (fun i _ => nV - (intOf i).toNat)
    case atStart => exact ⟨0, by omega, rfl, hB⟩
    case round =>
      clear hB
      obtain ⟨k, hk, rfl, hB⟩ := hrel
      by_cases hlt : k < nV
      · obtain ⟨b, off, rfl, q0, q1⟩ := PV1.out k (by rw [HNV.out]; exact hlt)
        replace q0 := below_cell q0 hB
        replace q1 := below_cell q1 hB
        have hm : Hid (v.getD k (0, 0) ∈ v) := by unfold Hid; rw [getD_eq _ _ (by rw [HNV.out]; exact hlt)]; exact List.getElem_mem _
        have HS := hid0 (HAS.out wr _ (H32.out _ hm.out) hB)
        rw [HOW.out _ hm.out] at HS
        obtain ⟨q, hqe⟩ : ∃ q, q = v.getD k (0, 0) := ⟨_, rfl⟩
        rw [← hqe] at q0 q1 HS
        clear hqe hm
        go_wp2_with fail
        refine HS.out.mono ?_
        rintro e w8 ⟨rfl, hb8⟩
        replace hB := hB.trans (hb8.mono hB.size)
        clear hb8 HS q0 q1
        go_wp2
        go_roundw
        case rel => exact ⟨k + 1, by omega, by go_num, hB⟩
        case measure => simp [intOf]; omega
      · have hkn : nV = k := by omega
        subst hkn
        clear hlt hk HOW
        go_wp2
        go_loopw [9] (fun i wr => ∃ k : Nat, k ≤ nH ∧ i = .int .i64 k ∧ Below w1.heap.size w1 wr) (fun i _ => nH - (intOf i).toNat)
        case atStart => exact ⟨0, by omega, rfl, hB⟩
        case round =>
          clear hB
          obtain ⟨k, hk, rfl, hB⟩ := hrel
          by_cases hlt : k < nH
          · obtain ⟨b, off, rfl, q0, q1⟩ := PR1.out k (by rw [HNH.out]; exact hlt)
            obtain ⟨b', off', eb, r0, r1⟩ := PR1.out 0 (by rw [HNH.out]; omega)
            cases eb
            simp only [Nat.zero_mul, Nat.add_zero] at r0 r1
            have hm : Hid (H.getD k (0, 0) ∈ H) := by unfold Hid; rw [getD_eq _ _ (by rw [HNH.out]; exact hlt)]; exact List.getElem_mem _
            have hm0 : Hid (H.getD 0 (0, 0) ∈ H) := by unfold Hid; rw [getD_eq _ _ (by rw [HNH.out]; omega)]; exact List.getElem_mem _
            have Q20 := hid0 (lhas_re vo cv v (H.getD k (0, 0)) wr (by rw [HNV.out]; omega) (HSU.out _ hm.out) (PV1.out.mono hB))
            have Q24 := hid0 (rcmp_re (H.getD 0 (0, 0)) (H.getD k (0, 0)) wr)
            rw [HNV.out] at Q20
            have dc := cmp_least (HLE.out k (by first | exact hlt | (rw [HNH.out]; exact hlt)))
            have TQ : Hid (2 < nH → 0 < cr (cAt H k) (cAt H (k + 1)) (cAt H (k + 2))) := fun h => HTU.out (by first | exact h | (rw [HNH.out]; exact h)) k
            have hk0 : Hid (H.getD k (0, 0) = cAt H k) := by unfold Hid cAt; rw [HNH.out, Nat.mod_eq_of_lt hlt]
            have hck : Hid (in2 (H.getD k (0, 0))) := HI.out _ hm.out
            have z0 := fun d os => cell_regrown (below_cell q0 hB) d os
            have z1 := fun d os => cell_regrown (below_cell q1 hB) d os
            have z2 := fun d os => cell_regrown (below_cell r0 hB) d os
            have z3 := fun d os => cell_regrown (below_cell r1 hB) d os
            generalize cmpP (H.getD 0 (0, 0)).1 (H.getD 0 (0, 0)).2 (H.getD k (0, 0)).1 (H.getD k (0, 0)).2 = cc at *
            obtain ⟨q, hqe⟩ : ∃ q, q = H.getD k (0, 0) := ⟨_, rfl⟩
            obtain ⟨r, hre⟩ : ∃ r, r = H.getD 0 (0, 0) := ⟨_, rfl⟩
            rw [← hqe] at z0 z1 Q20 Q24 hk0 hck q0 q1
            rw [← hre] at z2 z3 Q24
            clear hqe hre hm hm0 r0 r1
            go_upto_region 12 with fail
            refine wp_region_quiet_below (by kernel_rfl) (by kernel_rfl) ?_
            repeat (go_big_quiet_step (fail))
            go_big_quiet_step (exact Q20.out _ _)
            repeat (go_big_quiet_step (fail))
            go_big_quiet_step (exact Q24.out _ _)
            repeat (go_big_quiet_step (fail))
            refine wpQuiet_nil ?_
            rintro _ ⟨⟨dq, osq⟩, rfl⟩
            have hc := below_regrown wr dq osq
            replace hB := hB.trans (hc.mono hB.size)
            clear z0 z1 z2 z3 Q20 Q24 hc
            generalize grow (redrawn wr dq) osq = W2 at *
            by_cases h3 : 2 < nH
            · obtain ⟨m1, hm1⟩ : ∃ m1, m1 = (k + 1) % nH := ⟨_, rfl⟩
              obtain ⟨m2, hm2⟩ : ∃ m2, m2 = (k + 2) % nH := ⟨_, rfl⟩
              have l1 : m1 < nH := by rw [hm1]; exact Nat.mod_lt _ (by omega)
              have l2 : m2 < nH := by rw [hm2]; exact Nat.mod_lt _ (by omega)
              have e1 : ((k : Int) + 1).tmod (nH : Int) = (m1 : Int) := by
                rw [Int.tmod_eq_emod_of_nonneg (by omega), hm1]
                push_cast
                rfl
              have e2 : ((k : Int) + 2).tmod (nH : Int) = (m2 : Int) := by
                rw [Int.tmod_eq_emod_of_nonneg (by omega), hm2]
                push_cast
                rfl
              have t := TQ.out h3
              have c1 : cAt H (k + 1) = H.getD m1 (0, 0) := by unfold cAt; rw [HNH.out, hm1]
              have c2 : cAt H (k + 2) = H.getD m2 (0, 0) := by unfold cAt; rw [HNH.out, hm2]
              rw [← hk0.out, c1, c2] at t
              clear hm1 hm2 c1 c2 TQ hk0
              obtain ⟨b', off', eb, s0, s1⟩ := PR1.out m1 (by rw [HNH.out]; exact l1)
              cases eb
              obtain ⟨b', off', eb, t0, t1⟩ := PR1.out m2 (by rw [HNH.out]; exact l2)
              cases eb
              have i1 : Hid (in2 (H.getD m1 (0, 0))) := HI.out _ (by rw [getD_eq _ _ (by rw [HNH.out]; exact l1)]; exact List.getElem_mem _)
              have i2 : Hid (in2 (H.getD m2 (0, 0))) := HI.out _ (by rw [getD_eq _ _ (by rw [HNH.out]; exact l2)]; exact List.getElem_mem _)
              obtain ⟨a1, ha1⟩ : ∃ a1, a1 = H.getD m1 (0, 0) := ⟨_, rfl⟩
              obtain ⟨a2, ha2⟩ : ∃ a2, a2 = H.getD m2 (0, 0) := ⟨_, rfl⟩
              rw [← ha1] at s0 s1 i1 t
              rw [← ha2] at t0 t1 i2 t
              clear ha1 ha2
              have Q25 := hid0 (rturn_re q a1 a2 W2 hck.out i1.out i2.out)
              have ht : decide (crT q a1 a2 ≤ 0) = false := decide_eq_false (by have := (turn_cr q a1 a2).1; omega)
              have y0 := fun d os => cell_regrown (below_cell q0 hB) d os
              have y1 := fun d os => cell_regrown (below_cell q1 hB) d os
              have y2 := fun d os => cell_regrown (below_cell s0 hB) d os
              have y3 := fun d os => cell_regrown (below_cell s1 hB) d os
              have y4 := fun d os => cell_regrown (below_cell t0 hB) d os
              have y5 := fun d os => cell_regrown (below_cell t1 hB) d os
              generalize crT q a1 a2 = tt at *
              have d3 : decide ((2 : Int) < (nH : Int)) = true := decide_eq_true (by omega)
              clear q0 q1 s0 s1 t0 t1 t
              go_upto_region 14 with fail
              refine wp_region_quiet_below (by kernel_rfl) (by kernel_rfl) ?_
              repeat (go_big_quiet_step (first | exact Q25.out _ _))
              refine wpQuiet_nil ?_
              rintro _ ⟨⟨dq, osq⟩, rfl⟩
              have hc := below_regrown W2 dq osq
              replace hB := hB.trans (hc.mono hB.size)
              clear y0 y1 y2 y3 y4 y5 Q25 hc
              generalize grow (redrawn W2 dq) osq = W3 at *
              go_wp2
              go_roundw
              case rel => exact ⟨k + 1, by omega, by go_num, hB⟩
              case measure => simp [intOf]; omega
            · have d3 : decide ((2 : Int) < (nH : Int)) = false := decide_eq_false (by omega)
              clear TQ q0 q1
              go_wp2
              go_region
              go_wp2
              go_roundw
              case rel => exact ⟨k + 1, by omega, by go_num, hB.trans ((Gr.refl _).drew.below.mono hB.size)⟩
              case measure => simp [intOf]; omega
          · have hkn : nH = k := by omega
            subst hkn
            clear hlt hk HLE HTU HSU
            have hszB := hB.size
            go_upto_region 17 with fail
            go_cut [10] (fun s w' => w'.ownsRow w1.heap.size 28 2 s v.length (flat v) ∧ Below w1.heap.size w1 w')
            case first =>
              cases vo with
              | none =>
                obtain ⟨h0, rfl⟩ := HN.out rfl
                have hnil : v = [] := List.eq_nil_of_length_eq_zero (by first | exact h0 | (rw [HNV.out]; exact h0))
                subst hnil
                have h00 : nV = 0 := by first | exact h0 | (rw [← HNV.out]; rfl)
                subst h00
                go_wp2_with (at_builtin; refine wpList_append_own_none rfl (.tmp 107) (.tmp 108) 22 rfl w1.heap.size 28 i0 2 Try.underlying22 hi (.slice none 0 0) 0 [] rfl (World.ownsRow_nil _ _ _ _) rfl ?_)
                go_meet
                case rel => exact ⟨World.ownsRow_nil _ _ _ _, hB⟩
              | some a =>
                have fl := flat_len v
                have PVB := hid0 (PV1.out.mono hB)
                rw [HNV.out] at fl
                go_wp2_with (at_builtin; refine wpList_append_own _ rfl (.tmp 107) (.tmp 108) 22 rfl w1.heap.size 28 i0 (.agg #[.int .i32 0, .int .i32 0]) 2 8 Try.underlying22 hi hz0 hz1 hz2 rfl (by decide) (.slice none 0 0) 0 [] rfl (World.ownsRow_nil _ _ _ _) a nV cv (flat v) rfl fl (Pts.cellsA PVB.out) (flat_cell v) (by unfold maxLen; omega) (by omega) hszB ?_)
                intro sv w8 hown hgrow _
                have hb8 : Below w1.heap.size w1 w8 := hB.grown hgrow hszB (fun k hk => by cases hk)
                have O8 : w8.ownsRow w1.heap.size 28 2 sv v.length (flat v) := by
                  rw [HNV.out]
                  simpa using hown
                clear hgrow hown
                obtain ⟨s8, c8, es8⟩ := own_any O8
                subst es8
                go_wp2
                go_meet
                case rel => exact ⟨O8, hb8⟩
            case rest =>
              obtain ⟨O8, hb8⟩ := hcut
              clear hB hszB
              obtain ⟨s8, c8, es8⟩ := own_any O8
              subst es8
              go_wp2
              go_loopw [10, 11] (fun s i wr => ∃ (k : Nat) (A : List (Int × Int)), k ≤ u.length ∧ i = .int .i64 k ∧ wr.ownsRow w1.heap.size 28 2 s A.length (flat A) ∧ A.length ≤ nV + k ∧ Hid (∀ q ∈ A, in2 q) ∧ Hid (∀ q ∈ A, q ∈ v ∨ hasH H q = true) ∧ Hid (∀ q ∈ v, q ∈ A) ∧ Below w1.heap.size w1 wr) (fun _ i _ => u.length - (intOf i).toNat)
              case atStart => exact ⟨0, v, by omega, rfl, O8, by rw [HNV.out]; omega, H32, (by intro q hq; exact Or.inl hq), (by intro q hq; exact hq), hb8⟩
              case round =>
                clear O8 hb8
                obtain ⟨k, A, hk, rfl, O, hAl, hA32, hA1, hA2, hB⟩ := hrel
                obtain ⟨s9, c9, es9⟩ := own_any O
                subst es9
                by_cases hlt : k < u.length
                · obtain ⟨b, off, rfl, q0, q1⟩ := PU1.out k hlt
                  replace q0 := below_cell q0 hB
                  replace q1 := below_cell q1 hB
                  have hm : Hid (u.getD k (0, 0) ∈ u) := by unfold Hid; rw [getD_eq _ _ hlt]; exact List.getElem_mem _
                  have hq2 : Hid (in2 (u.getD k (0, 0))) := U32.out _ hm.out
                  have HS := hid0 (HAS.out wr _ hq2.out hB)
                  obtain ⟨q, hqe⟩ : ∃ q, q = u.getD k (0, 0) := ⟨_, rfl⟩
                  rw [← hqe] at q0 q1 HS hq2
                  clear hqe hm
                  obtain ⟨f, hf⟩ : ∃ f, hasH H q = f := ⟨_, rfl⟩
                  have HFq := hid0 hf
                  rw [hf] at HS
                  clear hf
                  go_wp2_with fail
                  refine HS.out.mono ?_
                  rintro e w9 ⟨rfl, hb9⟩
                  have O9 := own_below O hb9
                  have q0' := below_cell q0 hb9
                  have q1' := below_cell q1 hb9
                  replace hB := hB.trans (hb9.mono hB.size)
                  clear hb9 HS q0 q1 O
                  cases f with
                  | false =>
                    go_wp2
                    go_roundw
                    case rel => exact ⟨k + 1, A, by omega, by go_num, O9, by omega, hA32, hA1, hA2, hB⟩
                    case measure => simp [intOf]; omega
                  | true =>
                    have hsz9 := hB.size
                    obtain ⟨nA, hnA⟩ : ∃ nA, nA = A.length := ⟨_, rfl⟩
                    have HNA := hid0 hnA
                    rw [← hnA] at O9 hAl ⊢
                    clear hnA
                    go_wp2_with (at_builtin; refine wpList_append_own _ rfl (.tmp 122) (.tmp 127) 22 rfl w1.heap.size 28 i0 (.agg #[.int .i32 0, .int .i32 0]) 2 8 Try.underlying22 hi hz0 hz1 hz2 rfl (by decide) _ nA _ rfl (O9.alloc _) ⟨w9.heap.size, 0, none⟩ 1 1 [.int .i32 q.1, .int .i32 q.2] rfl rfl (one_cells _ _ _) (fun u hu => by simp at hu; rcases hu with rfl | rfl <;> rfl) (by unfold maxLen; omega) (by omega) (by simp; omega) ?_)
                    intro sv w10 hown1 hgrow _
                    have hb10 : Below w1.heap.size w1 w10 := (hB.alloc hsz9 _).grown hgrow (by simp; omega) (fun j hj => (O9.lt j hj).1)
                    have fin : w10.ownsRow w1.heap.size 28 2 sv (A ++ [q]).length (flat (A ++ [q])) := by
                      rw [List.length_append, ← HNA.out, flat_one]
                      exact hown1
                    obtain ⟨s6, c6, es6⟩ := own_any hown1
                    subst es6
                    clear hgrow O9 hB q0' q1' hown1
                    go_wp2
                    go_roundw
                    case rel =>
                      refine ⟨k + 1, A ++ [q], by omega, by go_num, fin, ?_, ?_, ?_, ?_, hb10⟩
                      · rw [List.length_append, ← HNA.out]
                        show nA + 1 ≤ nV + (k + 1)
                        omega
                      · intro x hx
                        rcases List.mem_append.mp hx with h | h
                        · exact hA32.out x h
                        · have : x = q := by simpa using h
                          rw [this]; exact hq2.out
                      · intro x hx
                        rcases List.mem_append.mp hx with h | h
                        · exact hA1.out x h
                        · have : x = q := by simpa using h
                          rw [this]; exact Or.inr HFq.out
                      · intro x hx
                        exact List.mem_append.mpr (Or.inl (hA2.out x hx))
                    case measure => simp [intOf]; omega
                · have L9 := hid0 (HULLM.out wr A _ hB O (by omega) hA32.out (HAL.out A hA1.out hA2.out))
                  clear hA32 hA1 hA2 O
                  go_wp2_with fail
                  refine L9.out.mono ?_
                  rintro e w9 ⟨so9, c9, rfl, O9, hb9⟩
                  replace hB := hB.trans hb9
                  clear hb9 L9
                  go_wp2_with fail
                  refine (SAME.out _ _ _ hB O9).mono ?_
                  rintro e w10 ⟨rfl, gr⟩
                  replace hB := hB.trans (gr.below.mono hB.size)
                  go_wp2
                  go_ret
                  exact ⟨rfl, hb1.trans (hB.mono hsz1)⟩
end
end Go.Proofs.Ytljdnahomhbenaa
