/- HullKeeps: the law's walk. -/
import Derived.Test.YtljdnahomhbenaaKp
namespace Go.Proofs.Ytljdnahomhbenaa
section
set_option linter.unusedSimpArgs false
set_option linter.unusedVariables false
open Go.RowKit Go.Sort Go.Lib Go.Shelf

set_option maxRecDepth 20000 in
set_option maxHeartbeats 8000000 in
theorem keeps_walk (vo : Option Addr) (cv : Nat) (V : List (Int × Int)) (tol : Int) (w : World) (hl : V.length ≤ 17592186043904) (hc : V.length ≤ cv) (hcc : cv ≤ 9223372036854775807) (hP : Pts w vo V) :
    Calls Try.prog 8 #[.slice vo V.length cv, .int .i64 tol] w fun e w' => e = .returned (.bool true) ∧ Below w.heap.size w w' := by
  have T1 := hid0 (thin_any vo cv V tol (by omega) hc hcc w hP)
  by_cases hgt : 80 < V.length
  · have hgt' : (V.length : Int) > 80 := by omega
    clear T1 hP
    go_enter Try.func8, Try.ntmps8
    go_wp2
    go_ret
    exact ⟨rfl, Below.refl _ _⟩
  · have hgt' : ¬ (V.length : Int) > 80 := by omega
    by_cases h0 : faultF V tol = 0
    · by_cases h1 : V.length = 0
      · have e : (thinV V tol).length = 0 := by unfold thinV; rw [if_pos h0, if_pos (by omega)]; exact h1
        rw [h0, e] at T1
        obtain rfl : V = [] := List.eq_nil_of_length_eq_zero h1
        simp only [List.length_nil] at *
        clear hP e h0
        go_enter Try.func8, Try.ntmps8
        go_upto_region 4 with (go_at_call 21; refine T1.out.mono ?_; rintro e w1 ⟨sv, rfl, hown, hb⟩; obtain ⟨so, c, rfl⟩ := own_any hown; clear T1 hown)
        go_wp2
        go_ret
        exact ⟨rfl, hb⟩
      · obtain ⟨b, off, rfl, _, _⟩ := hP 0 (by omega)
        obtain ⟨hV4, ht, hV⟩ := fault_ok h0
        obtain ⟨p, p0, pL, pS, pT, hm1, hmn⟩ := thin_places h0 (by omega)
        have FL := thin_far_len h0
        have FF := fault_far h0
        have T2 := hid0 (fun w' (g : Below w.heap.size w w') => thin_any (some ⟨b, off, none⟩) cv V 3037000498 (by omega) hc hcc w' (hP.mono g))
        rw [FF] at T2
        rw [FL] at T2
        rw [h0] at T1
        have FT := hid0 (fun g c2 w' (hb : Below w.heap.size w w') (hT : Pts w' (some ⟨g, 0, none⟩) (thinV V tol)) => fits_any b off cv g 0 c2 V (thinV V tol) tol p (by omega) (by omega) hm1 (by omega) hV ht p0 pL pS pT w' (hP.mono hb) hT)
        have E0 := hid0 (pT 0 hm1)
        have EL := hid0 (pT ((thinV V tol).length - 1) (by omega))
        rw [p0] at E0
        rw [pL] at EL
        have HP := hid0 hP
        clear hP pS pT p0 pL FL FF hV ht
        generalize thinV V tol = T at *
        obtain ⟨n, hn⟩ : ∃ n, V.length = n := ⟨_, rfl⟩
        obtain ⟨m, hm⟩ : ∃ m, T.length = m := ⟨_, rfl⟩
        rw [hn] at T2 FT hgt hgt' hmn EL h1 ⊢
        rw [hn] at T1
        rw [hm] at T1 FT hm1 hmn EL
        have HN := hid0 hn
        have HM := hid0 hm
        clear hn hm h0 hl hc hcc hV4
        obtain ⟨A, hA⟩ : ∃ A, V.getD 0 (0, 0) = A := ⟨_, rfl⟩
        obtain ⟨Z, hZ⟩ : ∃ Z, V.getD (n - 1) (0, 0) = Z := ⟨_, rfl⟩
        rw [hA] at E0
        rw [hZ] at EL
        replace hA := hid0 hA
        replace hZ := hid0 hZ
        have n1 : ¬ (n : Int) = 0 := by omega
        have n2 : ((n : Int) == 0) = false := beq_eq_false_iff_ne.2 n1
        have m1 : ¬ (m : Int) = 0 := by omega
        have m2 : ((m : Int) == 0) = false := beq_eq_false_iff_ne.2 m1
        go_enter Try.func8, Try.ntmps8
        go_upto_region 4 with (go_at_call 21; refine T1.out.mono ?_; rintro e w1 ⟨sv, rfl, hown, hb⟩; obtain ⟨g, c2, rfl, hc2, hg⟩ := own_shape2 hown (by omega); clear T1)
        have PT : Pts w1 (some ⟨g, 0, none⟩) T := Pts.of_own (base := w.heap.size) (cap := c2) (by rw [HM.out]; exact hown)
        clear hown
        obtain ⟨_, _, e, a0, a1⟩ := (HP.out.mono hb) 0 (by rw [HN.out]; omega)
        cases e
        obtain ⟨_, _, e, z0, z1⟩ := (HP.out.mono hb) (n - 1) (by rw [HN.out]; omega)
        cases e
        obtain ⟨_, _, e, b0, b1⟩ := PT 0 (by rw [HM.out]; omega)
        cases e
        obtain ⟨_, _, e, c0, c1⟩ := PT (m - 1) (by rw [HM.out]; omega)
        cases e
        rw [hA.out] at a0 a1
        rw [hZ.out] at z0 z1
        rw [E0.out] at b0 b1
        rw [EL.out] at c0 c1
        simp only [Nat.zero_mul, Nat.add_zero, Nat.zero_add] at a0 a1 b0 b1 c0 c1 z0 z1
        replace PT := hid0 PT
        replace a0 := cell_gr a0
        replace a1 := cell_gr a1
        replace b0 := cell_gr b0
        replace b1 := cell_gr b1
        replace c0 := cell_gr c0
        replace c1 := cell_gr c1
        replace z0 := cell_gr z0
        replace z1 := cell_gr z1
        have hmn' : ¬ (m : Int) > (n : Int) := by omega
        have hmn2 : decide ((m : Int) > (n : Int)) = false := decide_eq_false hmn'
        go_upto_region 8 with fail
        refine wp_region_quiet_grown (by kernel_rfl) (by kernel_rfl) ?_
        repeat (go_big_quiet_step (fail))
        refine wpQuiet_nil ?_
        intro _ hw'
        obtain ⟨⟨nq, osq⟩, hw''⟩ := hw'
        subst hw''
        have gg : Gr w1 (grow (w1.drewN nq) osq) := ⟨nq, osq, rfl⟩
        replace PT := hid0 (PT.out.mono gg.below)
        replace hb := hb.trans (gg.below.mono hb.size)
        clear a0 a1 b0 b1 c0 c1 z0 z1 gg
        generalize grow (w1.drewN nq) osq = W2 at *
        go_upto_region 11 with (go_at_call 26; refine (FT.out g c2 _ hb PT.out).mono ?_; rintro e w3 ⟨rfl, g3⟩; clear FT)
        replace hb := hb.trans (g3.mono hb.size)
        clear g3 PT
        go_upto_region 14 with (go_at_call 21; refine (T2.out _ hb).mono ?_; rintro e w4 ⟨sv4, rfl, hown, g4⟩; obtain ⟨so4, c4, rfl⟩ := own_any hown; clear T2 hown)
        replace hb := hb.trans (g4.mono hb.size)
        clear g4
        by_cases h3 : n < 3
        · rw [if_pos h3]
          by_cases e1 : n = 1
          · subst e1
            go_wp2
            go_ret
            exact ⟨rfl, hb⟩
          · have e2 : n = 2 := by omega
            subst e2
            go_wp2
            go_ret
            exact ⟨rfl, hb⟩
        · rw [if_neg h3]
          have n3 : ((n : Int) == 1) = false := beq_eq_false_iff_ne.2 (by omega)
          go_wp2
          go_ret
          exact ⟨rfl, hb⟩
    · have e : (thinV V tol).length = 0 := by unfold thinV; rw [if_neg h0]; rfl
      rw [e] at T1
      generalize faultF V tol = E at *
      have h0' : (E != 0) = true := bne_iff_ne.2 h0
      clear hP e
      go_enter Try.func8, Try.ntmps8
      go_upto_region 4 with (go_at_call 21; refine T1.out.mono ?_; rintro e w1 ⟨sv, rfl, hown, hb⟩; obtain ⟨so, c, rfl⟩ := own_any hown; clear T1 hown)
      go_wp2
      go_ret
      exact ⟨rfl, hb⟩
end
end Go.Proofs.Ytljdnahomhbenaa
