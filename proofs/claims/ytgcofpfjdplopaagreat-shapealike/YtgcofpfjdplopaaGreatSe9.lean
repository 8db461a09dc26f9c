/- What is wrong with a corridor; Check of a shape that is no polygon. -/
import Derived.Test.YtgcofpfjdplopaaGreatSc9
namespace Go.Proofs.YtgcofpfjdplopaaGreat
section
set_option linter.unusedSimpArgs false
open Go.RowKit Go.Sort

def anyOut (L : List (Int × Int)) : Bool := L.any fun p => !latP p
theorem any_pos {L : List (Int × Int)} {k : Nat} (hk : k < L.length) (h : latP (L.getD k (0, 0)) = false) : anyOut L = true := by
  unfold anyOut
  rw [List.any_eq_true]
  refine ⟨L[k], List.getElem_mem hk, ?_⟩
  have : L.getD k (0, 0) = L[k] := by simp [List.getD, hk]
  rw [← this, h]; rfl
theorem any_neg {L : List (Int × Int)} (h : ∀ j, j < L.length → latP (L.getD j (0, 0)) = true) : anyOut L = false := by
  unfold anyOut
  rw [List.any_eq_false]
  intro p hp
  obtain ⟨i, hi, rfl⟩ := List.getElem_of_mem hp
  have := h i hi
  rw [show L.getD i (0, 0) = L[i] from by simp [List.getD, hi]] at this
  simp [this]
set_option maxRecDepth 20000 in
set_option maxHeartbeats 4000000 in
theorem index_out (ao : Option Addr) (cap : Nat) (L : List (Int × Int)) (hl : L.length ≤ 281474976710656) (w : World) (hP : Pts w ao L) :
    Calls Tryz.prog 109 #[.slice ao L.length cap, .func (.func 84) #[] #[]] w fun e w' => ∃ r : Int, e = .returned (.int .i64 r) ∧ decide (0 ≤ r) = anyOut L ∧ Gr w w' := by
  have HP := hid' hP
  have HT : Hid ((∀ j, j < L.length → latP (L.getD j (0, 0)) = true) → anyOut L = false) := any_neg
  have HF : Hid (∀ k, k < L.length → latP (L.getD k (0, 0)) = false → anyOut L = true) := fun k => any_pos
  generalize anyOut L = R at *
  clear hP
  go_enter Tryz.func109, Tryz.ntmps109
  go_wp2
  go_loopw [8] (fun i wr => ∃ k : Nat, k ≤ L.length ∧ i = .int .i64 k ∧ Hid (∀ j, j < k → latP (L.getD j (0, 0)) = true) ∧ Gr w wr) (fun i _ => L.length - (intOf i).toNat)
  case atStart => exact ⟨0, by omega, rfl, (by intro j hj; omega), Gr.refl _⟩
  case round =>
    obtain ⟨k, hk, rfl, hE, hG⟩ := hrel
    by_cases hlt : k < L.length
    · obtain ⟨b, off, rfl, p0, p1⟩ := HP.out k hlt
      replace p0 := below_cell p0 hG.below
      replace p1 := below_cell p1 hG.below
      have OU := fun w => hid' (out_any (L.getD k (0, 0)) w)
      have HF' := hid' (HF.out k hlt)
      have HE' : Hid (latP (L.getD k (0, 0)) = true → ∀ j, j < k + 1 → latP (L.getD j (0, 0)) = true) := fun e j hj => by
        by_cases c : j = k
        · subst c; exact e
        · exact hE.out j (by omega)
      clear HF hE
      generalize latP (L.getD k (0, 0)) = B at *
      generalize (L.getD k (0, 0)).1 = X at *
      generalize (L.getD k (0, 0)).2 = Y at *
      cases B with
      | true =>
        replace HE' := hid' (HE'.out rfl)
        clear HF'
        go_wp2_with (go_at_call 84; refine (OU _).out.mono ?_; rintro e w1 ⟨rfl, g1⟩)
        go_roundw
        case rel => exact ⟨k + 1, by omega, by go_num, HE', hG.trans g1⟩
        case measure => simp [intOf]; omega
      | false =>
        have eF := hid' (HF'.out rfl)
        clear HF' HE' HT
        go_wp2_with (go_at_call 84; refine (OU _).out.mono ?_; rintro e w1 ⟨rfl, g1⟩)
        go_ret
        exact ⟨k, rfl, by rw [eF.out]; exact decide_eq_true (by omega), hG.trans g1⟩
    · obtain rfl : k = L.length := by omega
      have eT := hid' (HT.out hE.out)
      clear HT HF
      go_wp2
      go_ret
      exact ⟨-1, rfl, by rw [eT.out]; rfl, hG⟩
theorem cont_out (ao : Option Addr) (cap : Nat) (L : List (Int × Int)) (hl : L.length ≤ 281474976710656) (w : World) (hP : Pts w ao L) :
    Calls Tryz.prog 83 #[.slice ao L.length cap, .func (.func 84) #[] #[]] w fun e w' => e = .returned (.bool (anyOut L)) ∧ Gr w w' := by
  have I := hid' (index_out ao cap L hl w hP)
  clear hP
  generalize anyOut L = R at *
  generalize L.length = n at *
  go_enter Tryz.func83, Tryz.ntmps83
  go_wp2_with (go_at_call 109; refine I.out.mono ?_; rintro e w1 ⟨r, rfl, hr, g1⟩)
  go_ret
  exact ⟨by rw [← hr]; rfl, g1⟩
/-- Whether two neighbours are one point. -/
def standB (L : List (Int × Int)) : Bool := (List.range (L.length - 1)).any fun i => decide (L.getD (i + 1) (0, 0) = L.getD i (0, 0))
theorem stand_pos {L : List (Int × Int)} {k : Nat} (hk : k + 1 < L.length) (h : L.getD (k + 1) (0, 0) = L.getD k (0, 0)) : standB L = true := by
  unfold standB
  rw [List.any_eq_true]
  exact ⟨k, List.mem_range.2 (by omega), decide_eq_true h⟩
theorem stand_neg {L : List (Int × Int)} (h : ∀ j, j < L.length - 1 → L.getD (j + 1) (0, 0) ≠ L.getD j (0, 0)) : standB L = false := by
  unfold standB
  rw [List.any_eq_false]
  intro i hi
  have := h i (List.mem_range.1 hi)
  simpa using this
set_option maxRecDepth 20000 in
set_option maxHeartbeats 4000000 in
theorem stand_any (b off cap : Nat) (L : List (Int × Int)) (h0 : 2 ≤ L.length) (hc : L.length ≤ cap) (hl : L.length ≤ 281474976710656) (hc2 : cap ≤ 9223372036854775807) (w : World) (hP : Pts w (some ⟨b, off, none⟩) L) :
    Calls Tryz.prog 85 #[.slice (some ⟨b, off, none⟩) L.length cap] w fun e w' => e = .returned (.bool (standB L)) ∧ Gr w w' := by
  have HP := hid' hP
  have HT : Hid ((∀ j, j < L.length - 1 → L.getD (j + 1) (0, 0) ≠ L.getD j (0, 0)) → standB L = false) := stand_neg
  have HF : Hid (∀ k, k + 1 < L.length → L.getD (k + 1) (0, 0) = L.getD k (0, 0) → standB L = true) := fun k => stand_pos
  generalize standB L = R at *
  have si := run_store_i .i32
  have hc1 : 1 < cap := by omega
  have hc3 : ¬ cap = 1 := by omega
  have hc4 : ¬ (cap : Int) = 1 := by omega
  obtain ⟨n, hn⟩ : ∃ n, L.length = n + 1 := ⟨L.length - 1, by omega⟩
  rw [hn] at hc hl ⊢
  replace hn := hid' hn
  clear hP h0
  go_enter Tryz.func85, Tryz.ntmps85
  go_wp2
  go_loopw [8] (fun i wr => ∃ k : Nat, k ≤ n ∧ i = .int .i64 k ∧ Hid (∀ j, j < k → L.getD (j + 1) (0, 0) ≠ L.getD j (0, 0)) ∧ Gr w wr) (fun i _ => n - (intOf i).toNat)
  case atStart => exact ⟨0, by omega, rfl, (by intro j hj; omega), Gr.refl _⟩
  case round =>
    obtain ⟨k, hk, rfl, hE, hG⟩ := hrel
    by_cases hlt : k < n
    · obtain ⟨b1, off1, e1, p0, p1⟩ := HP.out (k + 1) (by rw [hn.out]; omega)
      obtain ⟨b2, off2, e2, q0, q1⟩ := HP.out k (by rw [hn.out]; omega)
      simp only [Option.some.injEq, Addr.mk.injEq] at e1 e2
      obtain ⟨rfl, rfl, _⟩ := e1
      obtain ⟨rfl, rfl, _⟩ := e2
      rw [show off + (k + 1) * 2 = off + 2 + k * 2 from by omega] at p0 p1
      replace p0 := below_cell p0 hG.below
      replace p1 := below_cell p1 hG.below
      replace q0 := below_cell q0 hG.below
      replace q1 := below_cell q1 hG.below
      have hlt2 : k < n + 1 := by omega
      have C := pair_cases (L.getD (k + 1) (0, 0)) (L.getD k (0, 0))
      have HF' := hid' (HF.out k (by rw [hn.out]; omega))
      have HE' : Hid (L.getD (k + 1) (0, 0) ≠ L.getD k (0, 0) → ∀ j, j < k + 1 → L.getD (j + 1) (0, 0) ≠ L.getD j (0, 0)) := fun e j hj => by
        by_cases c : j = k
        · subst c; exact e
        · exact hE.out j (by omega)
      clear HF hE
      generalize (L.getD (k + 1) (0, 0)).1 = X at *
      generalize (L.getD (k + 1) (0, 0)).2 = Y at *
      generalize (L.getD k (0, 0)).1 = X' at *
      generalize (L.getD k (0, 0)).2 = Y' at *
      rcases C with ⟨e, rfl, rfl⟩ | ⟨e, c1, c2⟩ | ⟨e, c1⟩
      · have eF := hid' (HF'.out e)
        clear HF' HE' e HT
        have q2 := below_cell q0 ((Gr.refl wr).alloc (.cells #[.int .i32 X, .int .i32 Y] 28)).below
        have q3 := below_cell q1 ((Gr.refl wr).alloc (.cells #[.int .i32 X, .int .i32 Y] 28)).below
        go_wp2
        go_region
        go_wp2
        go_ret
        exact ⟨by rw [eF.out]; rfl, (hG.alloc _).drew⟩
      all_goals
        replace HE' := hid' (HE'.out e)
        clear HF' e
        have q2 := below_cell q0 ((Gr.refl wr).alloc (.cells #[.int .i32 X, .int .i32 Y] 28)).below
        have q3 := below_cell q1 ((Gr.refl wr).alloc (.cells #[.int .i32 X, .int .i32 Y] 28)).below
        go_wp2
        go_region
        go_wp2
        go_roundw
        case rel => exact ⟨k + 1, by omega, by go_num, HE', (hG.alloc _).drew⟩
        case measure => simp [intOf]; omega
    · obtain rfl : k = n := by omega
      have eT := hid' (HT.out (by rw [hn.out]; exact hE.out))
      clear HT HF
      go_wp2
      go_ret
      exact ⟨by rw [eT.out]; rfl, hG⟩
def corrF (L : List (Int × Int)) (s : Int) : Int := if L.length < 2 ∨ 16 < L.length then 94 else if anyOut L = true then 61 else if standB L = true then 94 else sizeF s
set_option maxRecDepth 20000 in
set_option maxHeartbeats 4000000 in
theorem corrF_any (ao : Option Addr) (cap : Nat) (L : List (Int × Int)) (s : Int) (hc : L.length ≤ cap) (hl : L.length ≤ 281474976710656) (hc2 : cap ≤ 9223372036854775807) (w : World) (hP : Pts w ao L) :
    Calls Tryz.prog 43 #[.slice ao L.length cap, .int .i32 s] w fun e w' => e = .returned (.int .i64 (corrF L s)) ∧ Gr w w' := by
  unfold corrF
  by_cases h2 : L.length < 2
  · rw [if_pos (.inl h2)]
    have h2' : (L.length : Int) < 2 := by omega
    clear hP
    go_enter Tryz.func43, Tryz.ntmps43
    go_wp2
    go_ret
    exact ⟨rfl, Gr.refl _⟩
  · by_cases h16 : 16 < L.length
    · rw [if_pos (.inr h16)]
      have h2' : ¬ (L.length : Int) < 2 := by omega
      have h16' : (16 : Int) < (L.length : Int) := by omega
      clear hP
      go_enter Tryz.func43, Tryz.ntmps43
      go_wp2
      go_ret
      exact ⟨rfl, Gr.refl _⟩
    · rw [if_neg (by omega)]
      have h2' : ¬ (L.length : Int) < 2 := by omega
      have h16' : ¬ (16 : Int) < (L.length : Int) := by omega
      obtain ⟨b, off, rfl, _⟩ := hP 0 (by omega)
      have CO : Hid (∀ W, Gr w W → Calls Tryz.prog 83 #[.slice (some ⟨b, off, none⟩) L.length cap, .func (.func 84) #[] #[]] W fun e w' => e = .returned (.bool (anyOut L)) ∧ Gr W w') := fun W g => cont_out _ _ L hl W (hP.mono g.below)
      have ST : Hid (∀ W, Gr w W → Calls Tryz.prog 85 #[.slice (some ⟨b, off, none⟩) L.length cap] W fun e w' => e = .returned (.bool (standB L)) ∧ Gr W w') := fun W g => stand_any _ _ _ L (by omega) hc hl hc2 W (hP.mono g.below)
      clear hP h2 h16
      generalize anyOut L = B1 at *
      generalize standB L = B2 at *
      generalize L.length = n at *
      cases B1 with
      | true =>
        simp only [if_true]
        go_enter Tryz.func43, Tryz.ntmps43
        go_wp2_with (go_at_call 83; refine (CO.out _ (Gr.refl _)).mono ?_; rintro e w1 ⟨rfl, g1⟩)
        go_ret
        exact ⟨rfl, g1⟩
      | false =>
        simp only [Bool.false_eq_true, if_false]
        cases B2 with
        | true =>
          simp only [if_true]
          go_enter Tryz.func43, Tryz.ntmps43
          go_wp2_with (first
            | (go_at_call 83; refine (CO.out _ (Gr.refl _)).mono ?_; rintro e w1 ⟨rfl, g1⟩)
            | (go_at_call 85; refine (ST.out _ g1).mono ?_; rintro e w2 ⟨rfl, g2⟩))
          go_ret
          exact ⟨rfl, g1.trans g2⟩
        | false =>
          simp only [Bool.false_eq_true, if_false]
          go_enter Tryz.func43, Tryz.ntmps43
          go_wp2_with (first
            | (go_at_call 83; refine (CO.out _ (Gr.refl _)).mono ?_; rintro e w1 ⟨rfl, g1⟩)
            | (go_at_call 85; refine (ST.out _ g1).mono ?_; rintro e w2 ⟨rfl, g2⟩)
            | (go_at_call 81; refine (sizeF_any s _).mono ?_; rintro e w3 ⟨rfl, rfl⟩))
          go_ret
          exact ⟨rfl, g1.trans g2⟩
end
end Go.Proofs.YtgcofpfjdplopaaGreat
