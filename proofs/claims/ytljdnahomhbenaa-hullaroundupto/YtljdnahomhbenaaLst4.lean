/- Lists of points: the reference's Sorted: each is laid where it belongs. -/
import Derived.Test.YtljdnahomhbenaaLst3
import Derived.Test.YtljdnahomhbenaaOwn
import Derived.Test.YtljdnahomhbenaaRef6
namespace Go.Proofs.Ytljdnahomhbenaa
section
open Go.RowKit Go.Sort


/-- A point laid at place k of a list. -/
def insAt (R : List (Int × Int)) (k : Nat) (p : Int × Int) : List (Int × Int) := R.take k ++ p :: R.drop k
theorem insAt_end (R : List (Int × Int)) (p : Int × Int) : R ++ [p] = insAt R R.length p := by simp [insAt]
theorem insAt_get (R : List (Int × Int)) (k : Nat) (p : Int × Int) (h : k ≤ R.length) : (insAt R k p).getD k (0, 0) = p := by
  simp [insAt, List.getD, Nat.min_eq_left h]
theorem insAt_pre (R : List (Int × Int)) (k : Nat) (p : Int × Int) (h : k + 1 ≤ R.length) : (insAt R (k + 1) p).getD k (0, 0) = R.getD k (0, 0) := by
  have : k < (R.take (k + 1)).length := by simp; omega
  simp [insAt, List.getD, List.getElem?_append_left this]
theorem insAt_step (R : List (Int × Int)) (k : Nat) (p : Int × Int) (h : k + 1 ≤ R.length) : ((insAt R (k + 1) p).set (k + 1) (R.getD k (0, 0))).set k p = insAt R k p := by
  obtain ⟨A, q, B, rfl, hA⟩ : ∃ A q B, R = A ++ q :: B ∧ A.length = k := by
    refine ⟨R.take k, R.getD k (0, 0), R.drop (k + 1), ?_, by simp; omega⟩
    have hk : k < R.length := by omega
    simp [List.getD, hk]
  subst hA
  simp [insAt, List.getD, List.take_append]
  exact List.take_of_length_le (by omega)
theorem insAt_perm (R : List (Int × Int)) (k : Nat) (p : Int × Int) : (insAt R k p).Perm (R ++ [p]) := by
  have e : R ++ [p] = R.take k ++ (R.drop k ++ [p]) := by rw [← List.append_assoc, List.take_append_drop]
  rw [e]
  unfold insAt
  exact List.Perm.append_left _ (List.perm_append_singleton p _).symm
theorem asc_ins {R : List (Int × Int)} {k : Nat} {p : Int × Int} (h : asc R) (hk : k ≤ R.length) (hr : ∀ q ∈ R.drop k, ltP p q) (hl : k = 0 ∨ ¬ ltP p (R.getD (k - 1) (0, 0))) : asc (insAt R k p) := by
  unfold asc at *
  have h' := h
  rw [← List.take_append_drop k R, List.pairwise_append] at h'
  obtain ⟨h1, h2, h3⟩ := h'
  unfold insAt
  rw [List.pairwise_append]
  refine ⟨h1, ?_, ?_⟩
  · rw [List.pairwise_cons]
    exact ⟨fun q hq => by have := hr q hq; unfold ltP at *; omega, h2⟩
  · intro a ha b hb
    rcases List.mem_cons.mp hb with rfl | hb
    · rcases hl with rfl | hl
      · simp at ha
      · obtain ⟨i, hi, rfl⟩ := List.mem_iff_getElem.mp ha
        have hi' : i < k := by simp at hi; omega
        have e : (R.take k)[i] = R[i]'(by omega) := by simp
        rw [e]
        have e2 : R.getD (k - 1) (0, 0) = R[k - 1]'(by omega) := by simp [List.getD, show k - 1 < R.length by omega]
        rw [e2] at hl
        by_cases hlast : i = k - 1
        · subst hlast; exact hl
        · have := (List.pairwise_iff_getElem.mp h) i (k - 1) (by omega) (by omega) (by omega)
          unfold ltP at *; omega
    · exact h3 a ha b hb

set_option maxRecDepth 20000 in
set_option maxHeartbeats 8000000 in
theorem rsorted_any (vo : Option Addr) (cv : Nat) (l : List (Int × Int)) (w : World) (hl : l.length ≤ 17592186043904) (hP : Pts w vo l) :
    Calls Try.prog 55 #[.slice vo l.length cv] w fun e w' => ∃ sv R, e = .returned sv ∧ w'.ownsRow w.heap.size 28 2 sv l.length (flat R) ∧ R.Perm l ∧ asc R ∧ Below w.heap.size w w' := by
  obtain ⟨i0, hi, hz0, hz1, hz2⟩ := info_parts Try.info28
  have HP : Hid (Pts w vo l) := hP
  clear hP
  go_enter Try.func55, Try.ntmps55
  go_wp2
  go_loopw [3, 4] (fun s i wr => ∃ (k : Nat) (R : List (Int × Int)), k ≤ l.length ∧ i = .int .i64 k ∧ wr.ownsRow w.heap.size 28 2 s k (flat R) ∧ Hid (R.Perm (l.take k)) ∧ Hid (asc R) ∧ Below w.heap.size w wr) (fun _ i _ => l.length - (intOf i).toNat)
  case atStart => exact ⟨0, [], by omega, rfl, World.ownsRow_nil _ _ _ _, (by exact List.Perm.refl _), (by exact List.Pairwise.nil), Below.refl _ _⟩
  case round =>
    obtain ⟨i, R, hk, rfl, hown, hp, ha, hb⟩ := hrel
    by_cases hlt : i < l.length
    · obtain ⟨b, off, rfl, p0, p1⟩ := HP.out i hlt
      replace p0 := below_cell p0 hb
      replace p1 := below_cell p1 hb
      have HT : Hid (l.take (i + 1) = l.take i ++ [((l.getD i (0, 0)).1, (l.getD i (0, 0)).2)]) := by
        unfold Hid
        have e : l.getD i (0, 0) = l[i] := by simp [List.getD, hlt]
        rw [e, ← List.take_append_getElem hlt]
      generalize (l.getD i (0, 0)).1 = X at *
      generalize (l.getD i (0, 0)).2 = Y at *
      have hsz := hb.size
      have hRl : R.length = i := by have := hown.1; rw [flat_len] at this; omega
      go_wp2_with (at_builtin; refine wpList_append_own _ rfl (.tmp 13) (.tmp 18) 22 rfl w.heap.size 28 i0 (.agg #[.int .i32 0, .int .i32 0]) 2 8 Try.underlying22 hi hz0 hz1 hz2 rfl (by decide) _ i _ rfl (hown.alloc _) ⟨wr.heap.size, 0, none⟩ 1 1 [.int .i32 X, .int .i32 Y] rfl rfl (one_cells _ _ _) (fun u hu => by simp at hu; rcases hu with rfl | rfl <;> rfl) (by unfold maxLen; omega) (by omega) (by simp; omega) ?_)
      intro sv w1 hown1 hgrow _
      have hb1 : Below w.heap.size w w1 := (hb.alloc hsz _).grown hgrow (by simp; omega) (fun j hj => (hown.lt j hj).1)
      obtain ⟨g, cap, rfl, hcap, hg⟩ := own2_shape (k := i) hown1
      have O1 : OwnP w1 w.heap.size g (i + 1) cap (insAt R i (X, Y)) := by
        have e := insAt_end R (X, Y)
        rw [hRl] at e
        unfold OwnP
        rw [← e, flat_one]
        exact hown1
      clear hgrow hown hown1 hb p0 p1
      have ek : ((i + 1 : Nat) : Int) - 1 = (i : Int) := by omega
      go_wp2
      go_loopw [5] (fun k' wz => ∃ k : Nat, k ≤ i ∧ k' = .int .i64 k ∧ OwnP wz w.heap.size g (i + 1) cap (insAt R k (X, Y)) ∧ Hid (∀ q ∈ R.drop k, ltP (X, Y) q) ∧ Below w.heap.size w wz) (fun k' _ => (intOf k').toNat)
      case atStart => exact ⟨i, Nat.le_refl _, rfl, O1, (by intro q hq; rw [List.drop_of_length_le (by omega)] at hq; cases hq), hb1⟩
      case round =>
        clear O1 hb1
        obtain ⟨k, hki, rfl, O, hr, hb⟩ := hrel
        by_cases hk0 : k = 0
        · subst hk0
          have fin : Hid (asc (insAt R 0 (X, Y))) := asc_ins ha.out (by omega) hr.out (.inl rfl)
          have fin2 : Hid ((insAt R 0 (X, Y)).Perm (l.take (i + 1))) := by
            unfold Hid
            rw [HT.out]
            exact (insAt_perm R 0 (X, Y)).trans (List.Perm.append_right _ hp.out)
          go_wp2
          refine wp_region_quiet_grown (by kernel_rfl) (by kernel_rfl) ?_
          repeat (go_big_quiet_step (first | (go_at_call 24; exact Calls.grown_of (rcmp_any _ _ _ _ _))))
          refine wpQuiet_nil ?_
          intro _ hw'
          obtain ⟨⟨nq, osq⟩, hw''⟩ := hw'
          subst hw''
          have gq : Gr wr (grow (wr.drewN nq) osq) := ⟨nq, osq, rfl⟩
          replace O := O.gr gq
          replace hb := hb.trans (gq.below.mono hb.size)
          clear gq
          generalize grow (wr.drewN nq) osq = W2 at *
          go_wp2
          go_roundw
          case rel => exact ⟨i + 1, insAt R 0 (X, Y), by omega, by go_num, O, fin2, fin, hb⟩
          case measure => simp [intOf]; omega
        · obtain ⟨j, rfl⟩ : ∃ j, k = j + 1 := ⟨k - 1, by omega⟩
          obtain ⟨a0, a1, a2, a3⟩ := O.at (j + 1) (by omega)
          obtain ⟨b0, b1, b2, b3⟩ := O.at j (by omega)
          rw [insAt_get R (j + 1) (X, Y) (by omega)] at a0 a1
          rw [insAt_pre R j (X, Y) (by omega)] at b0 b1
          dsimp only at a0 a1
          have HS : Hid (((insAt R (j + 1) (X, Y)).set (j + 1) ((R.getD j (0, 0)).1, (R.getD j (0, 0)).2)).set j (X, Y) = insAt R j (X, Y)) := insAt_step R j (X, Y) (by omega)
          have HD : Hid (ltP (X, Y) (R.getD j (0, 0)) → ∀ q ∈ R.drop j, ltP (X, Y) q) := by
            intro h q hq
            have e : R.drop j = R.getD j (0, 0) :: R.drop (j + 1) := by
              have hjR : j < R.length := by omega
              rw [List.drop_eq_getElem_cons hjR]
              simp [List.getD, hjR]
            rw [e] at hq
            rcases List.mem_cons.mp hq with rfl | hq
            · exact h
            · exact hr.out q hq
          have CF : cmpP X Y (R.getD j (0, 0)).1 (R.getD j (0, 0)).2 < 0 ↔ ltP (X, Y) (R.getD j (0, 0)) := cf_lt (X, Y) (R.getD j (0, 0))
          have NL : Hid (¬ ltP (X, Y) (R.getD j (0, 0)) → j + 1 = 0 ∨ ¬ ltP (X, Y) (R.getD (j + 1 - 1) (0, 0))) := fun h => .inr (by simpa using h)
          have y0 := cell_gr a0
          have y1 := cell_gr a1
          have y2 := cell_gr b0
          have y3 := cell_gr b1
          clear a0 a1 a2 a3 b0 b1 b2 b3
          have hj1 : j + 1 < i + 1 := by omega
          have hj2 : j < i + 1 := by omega
          by_cases hless : ltP (X, Y) (R.getD j (0, 0))
          · have c1 : decide (cmpP X Y (R.getD j (0, 0)).1 (R.getD j (0, 0)).2 < 0) = true := decide_eq_true (CF.mpr hless)
            have hr2 : Hid (∀ q ∈ R.drop j, ltP (X, Y) q) := HD.out hless
            have QQ : Hid ((insAt R (j + 1) (X, Y)).getD j (0, 0) = ((R.getD j (0, 0)).1, (R.getD j (0, 0)).2)) := insAt_pre R j (X, Y) (by omega)
            clear CF HD NL hless hr
            generalize (R.getD j (0, 0)).1 = QX at *
            generalize (R.getD j (0, 0)).2 = QY at *
            go_wp2
            refine wp_region_quiet_grown (by kernel_rfl) (by kernel_rfl) ?_
            repeat (go_big_quiet_step (first | (go_at_call 24; exact Calls.grown_of (rcmp_any _ _ _ _ _))))
            refine wpQuiet_nil ?_
            intro _ hw'
            obtain ⟨⟨nq, osq⟩, hw''⟩ := hw'
            subst hw''
            have gq : Gr wr (grow (wr.drewN nq) osq) := ⟨nq, osq, rfl⟩
            replace O := O.gr gq
            replace hb := hb.trans (gq.below.mono hb.size)
            clear gq
            generalize grow (wr.drewN nq) osq = W2 at *
            clear y0 y1 y2 y3 c1
            have hgl : g < W2.heap.size := by
              obtain ⟨cur, hc, _⟩ := O.shape
              exact lt_of_block hc
            have G1 : Hid ((insAt R (j + 1) (X, Y)).getD (j + 1) (0, 0) = (X, Y)) := insAt_get R (j + 1) (X, Y) (by omega)
            have G2 : Hid ((insAt R (j + 1) (X, Y)).getD j (0, 0) = (QX, QY)) := QQ
            obtain ⟨a0, a1, _, _⟩ := O.at (j + 1) (by omega)
            rw [G1.out] at a0 a1
            dsimp only at a0 a1
            go_upto_region 9 with fail
            have g1 : Gr W2 (W2.alloc (.cells #[.int .i32 X, .int .i32 Y] 28)) := (Gr.refl _).alloc _
            have x0 : (W2.alloc (.cells #[.int .i32 X, .int .i32 Y] 28)).cell? ⟨W2.heap.size, 0, none⟩ = some (.int .i32 X) := by go_simp
            have x1 : (W2.alloc (.cells #[.int .i32 X, .int .i32 Y] 28)).cell? ⟨W2.heap.size, 1, none⟩ = some (.int .i32 Y) := by go_simp
            replace O := O.gr g1
            replace hb := hb.trans (g1.below.mono hb.size)
            clear a0 a1 g1
            generalize W2.alloc (.cells #[.int .i32 X, .int .i32 Y] 28) = W3 at *
            obtain ⟨a0, a1, a2, a3⟩ := O.at (j + 1) (by omega)
            obtain ⟨b0, b1, _, _⟩ := O.at j (by omega)
            rw [G2.out] at b0 b1
            dsimp only at b0 b1
            go_upto_region 10 with fail
            replace O := O.set (j + 1) (by omega) QX QY
            replace hb := (hb.setCell (p := ⟨g, (j + 1) * 2, none⟩) hg (.int .i32 QX)).setCell (p := ⟨g, (j + 1) * 2 + 1, none⟩) hg (.int .i32 QY)
            replace x0 : ((W3.setCell ⟨g, (j + 1) * 2, none⟩ (.int .i32 QX)).setCell ⟨g, (j + 1) * 2 + 1, none⟩ (.int .i32 QY)).cell? ⟨W2.heap.size, 0, none⟩ = some (.int .i32 X) := by
              rw [World.cell?_setCell_far _ _ _ _ (by simp only []; omega), World.cell?_setCell_far _ _ _ _ (by simp only []; omega)]; exact x0
            replace x1 : ((W3.setCell ⟨g, (j + 1) * 2, none⟩ (.int .i32 QX)).setCell ⟨g, (j + 1) * 2 + 1, none⟩ (.int .i32 QY)).cell? ⟨W2.heap.size, 1, none⟩ = some (.int .i32 Y) := by
              rw [World.cell?_setCell_far _ _ _ _ (by simp only []; omega), World.cell?_setCell_far _ _ _ _ (by simp only []; omega)]; exact x1
            clear a0 a1 a2 a3 b0 b1 G1 G2
            generalize (W3.setCell ⟨g, (j + 1) * 2, none⟩ (.int .i32 QX)).setCell ⟨g, (j + 1) * 2 + 1, none⟩ (.int .i32 QY) = W4 at *
            obtain ⟨b0, b1, b2, b3⟩ := O.at j (by omega)
            go_wp2
            go_roundw
            case rel => exact ⟨j, by omega, rfl, by rw [← HS.out]; exact O.set j (by omega) X Y, hr2, (hb.setCell hg _).setCell hg _⟩
            case measure => simp [intOf]
          · have c1 : decide (cmpP X Y (R.getD j (0, 0)).1 (R.getD j (0, 0)).2 < 0) = false := decide_eq_false (fun h => hless (CF.mp h))
            have fin : Hid (asc (insAt R (j + 1) (X, Y))) := asc_ins ha.out (by omega) hr.out (NL.out hless)
            have fin2 : Hid ((insAt R (j + 1) (X, Y)).Perm (l.take (i + 1))) := by
              unfold Hid
              rw [HT.out]
              exact (insAt_perm R (j + 1) (X, Y)).trans (List.Perm.append_right _ hp.out)
            clear CF HD NL hless HS
            generalize (R.getD j (0, 0)).1 = QX at *
            generalize (R.getD j (0, 0)).2 = QY at *
            go_wp2
            refine wp_region_quiet_grown (by kernel_rfl) (by kernel_rfl) ?_
            repeat (go_big_quiet_step (first | (go_at_call 24; exact Calls.grown_of (rcmp_any _ _ _ _ _))))
            refine wpQuiet_nil ?_
            intro _ hw'
            obtain ⟨⟨nq, osq⟩, hw''⟩ := hw'
            subst hw''
            have gq : Gr wr (grow (wr.drewN nq) osq) := ⟨nq, osq, rfl⟩
            replace O := O.gr gq
            replace hb := hb.trans (gq.below.mono hb.size)
            clear gq
            generalize grow (wr.drewN nq) osq = W2 at *
            go_wp2
            go_roundw
            case rel => exact ⟨i + 1, insAt R (j + 1) (X, Y), by omega, by go_num, O, fin2, fin, hb⟩
            case measure => simp [intOf]; omega
    · have hkn : i = l.length := by omega
      subst hkn
      have hp' : Hid (R.Perm l) := by
        have := hp.out
        rwa [List.take_length] at this
      go_wp2
      go_ret
      exact ⟨_, R, rfl, hown, hp'.out, ha.out, hb⟩
end
end Go.Proofs.Ytljdnahomhbenaa
