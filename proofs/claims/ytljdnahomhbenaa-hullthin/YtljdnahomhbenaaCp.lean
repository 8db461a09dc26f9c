/- slices.Compact of a row of points of the call's own: what is kept stands at the row's head. -/
import Derived.Test.YtljdnahomhbenaaCp0J
namespace Go.Proofs.Ytljdnahomhbenaa
section
open Go.RowKit Go.Sort Go.Lib

theorem hid0 {p : Prop} (h : p) : Hid p := h
theorem getD_arr (D : List (Int × Int)) (j : Nat) : D.toArray[j]! = D.getD j (0, 0) := by
  simp [List.getD, getElem!_def]
  cases D[j]? <;> rfl
theorem toList_getD (d : Array (Int × Int)) (j : Nat) : d.toList.getD j (0, 0) = d[j]! := by
  have := getD_arr d.toList j
  simpa using this.symm

theorem pair_cases (p q : Int × Int) : (p = q ∧ p.1 = q.1 ∧ p.2 = q.2) ∨ (p ≠ q ∧ (p.1 == q.1) = true ∧ (p.2 == q.2) = false) ∨ (p ≠ q ∧ (p.1 == q.1) = false) := by
  by_cases h1 : p.1 = q.1
  · by_cases h2 : p.2 = q.2
    · exact .inl ⟨Prod.ext h1 h2, h1, h2⟩
    · exact .inr (.inl ⟨fun e => h2 (by rw [e]), beq_iff_eq.2 h1, beq_eq_false_iff_ne.2 h2⟩)
  · exact .inr (.inr ⟨fun e => h1 (by rw [e]), beq_eq_false_iff_ne.2 h1⟩)

set_option maxRecDepth 20000 in
set_option maxHeartbeats 4000000 in
theorem compact_any (B g n : Nat) (D : List (Int × Int)) (w : World) (hn : n ≤ 17592186043904) (hD : OwnP w B g n n D) :
    Calls Try.prog 57 #[.slice (some ⟨g, 0, none⟩) n n] w fun e w' => ∃ R, e = .returned (.slice (some ⟨g, 0, none⟩) (compact D).length n) ∧ OwnP w' B g n n R ∧ R.take (compact D).length = compact D ∧ Below B w w' := by
  have hDl := hD.len
  have hgs : B ≤ w.heap.size := by
    obtain ⟨_, h2, _, _, _, _, h, _⟩ := hD.shape
    have := lt_of_block h2
    omega
  have hg : B ≤ g := by obtain ⟨_, _, _, _, _, _, h, _⟩ := hD.shape; exact h
  obtain ⟨d, rfl⟩ : ∃ d : Array (Int × Int), D = d.toList := ⟨D.toArray, by simp⟩
  have hds : d.size = n := by simpa using hDl
  have hcd : Hid (compact d.toList = compactUpTo d n) := by unfold Hid compact; simp [hds]
  generalize compact d.toList = CD at *
  by_cases h2 : n < 2
  · have e : compactUpTo d n = d.toList := by
      rw [compactUpTo_all d n (fun j hj => keeps_lt_one d j (by omega)), ← hds]
      exact range_map_get d
    have eC : CD = d.toList := hcd.out.trans e
    go_enter Try.func57, Try.ntmps57
    go_wp2
    go_ret
    exact ⟨d.toList, by rw [eC, hDl]; rfl, hD, by rw [eC, List.take_length], Below.refl _ _⟩
  · go_enter Try.func57, Try.ntmps57
    go_wp2
    go_loopw [3] (fun s3 wr => ∃ k : Nat, 1 ≤ k ∧ k ≤ n ∧ s3 = .int .i64 k ∧ Hid (∀ j, j < k → keeps d j = true) ∧ Gr w wr) (fun i _ => n - (intOf i).toNat)
    case atStart => exact ⟨1, Nat.le_refl _, by omega, rfl, keeps_lt_one d, Gr.refl _⟩
    case round =>
      obtain ⟨k, hk1, hk, rfl, hall, hG⟩ := hrel
      have O := hD.gr hG
      by_cases hlt : k < n
      · obtain ⟨a0, a1, _, _⟩ := O.at k hlt
        obtain ⟨b0, b1, _, _⟩ := O.at (k - 1) (by omega)
        rw [toList_getD] at a0 a1 b0 b1
        have D1 : Hid (∀ x y x' y', (d[k]!).1 = x → (d[k]!).2 = y → (d[k - 1]!).1 = x' → (d[k - 1]!).2 = y' → (x = x' ∧ y = y' → keeps d k = false) ∧ (¬ (x = x' ∧ y = y') → keeps d k = true)) := by
          rintro x y x' y' rfl rfl rfl rfl
          exact ⟨fun h => keeps_neg (by omega) (Prod.ext h.1 h.2), fun h => keeps_pos fun e => h ⟨by rw [e], by rw [e]⟩⟩
        have D2 := hid0 (D1.out _ _ _ _ rfl rfl rfl rfl)
        clear D1
        generalize (d[k]!).1 = X at *
        generalize (d[k]!).2 = Y at *
        generalize (d[k - 1]!).1 = X' at *
        generalize (d[k - 1]!).2 = Y' at *
        have C := pair_cases (X, Y) (X', Y')
        simp only at C
        rcases C with ⟨e, rfl, rfl⟩ | ⟨e, x1, x2⟩ | ⟨e, x1⟩
        · replace D2 := hid0 (D2.out.1 ⟨rfl, rfl⟩)
          go_wp2
          go_region
          go_wp2
          have hW : Gr w wr.drew := hG.drew
          generalize wr.drew = wd at *
          clear a0 a1 b0 b1 O hG e
          replace O := hD.gr hW
          have hb0 := hW.below.mono hgs
          go_loopw [3, 5] (fun s3 s5 wz => ∃ (kk k2 : Nat) (dk : Array (Int × Int)), s3 = .int .i64 kk ∧ s5 = .int .i64 k2 ∧ 1 ≤ k2 ∧ k + k2 ≤ n ∧ Hid (CompInv d (k + k2) kk dk) ∧ kk < k + k2 ∧ OwnP wz B g n n dk.toList ∧ Below B w wz) (fun _ i _ => n - (k + (intOf i).toNat))
          case atStart => exact ⟨k, 1, d, rfl, rfl, Nat.le_refl _, by omega, CompInv.start hall.out D2.out, by omega, O, hb0⟩
          case round =>
            clear O hb0 hW hD
            obtain ⟨kk, k2, dk, rfl, rfl, h1, hle, hI, hkk, O, hb⟩ := hrel
            by_cases hlt2 : k + k2 < n
            · obtain ⟨a0, a1, _, _⟩ := O.at (k + k2) (by omega)
              obtain ⟨b0, b1, _, _⟩ := O.at (k + k2 - 1) (by omega)
              obtain ⟨c0, c1, f0, f1⟩ := O.at kk (by omega)
              have E1 := hid0 (hI.out.high (k + k2) (by omega))
              have E2 := hid0 (hI.out.high (k + k2 - 1) (by omega))
              rw [toList_getD, E1.out, show (k + k2) * 2 = k * 2 + k2 * 2 by omega] at a0 a1
              rw [toList_getD, E2.out, show (k + k2 - 1) * 2 = k * 2 + (k2 - 1) * 2 by omega] at b0 b1
              have D1 : Hid (∀ x y x' y', (d[k + k2]!).1 = x → (d[k + k2]!).2 = y → (d[k + k2 - 1]!).1 = x' → (d[k + k2 - 1]!).2 = y' → (x = x' ∧ y = y' → keeps d (k + k2) = false) ∧ (¬ (x = x' ∧ y = y') → keeps d (k + k2) = true)) := by
                rintro x y x' y' rfl rfl rfl rfl
                exact ⟨fun h => keeps_neg (by omega) (Prod.ext h.1 h.2), fun h => keeps_pos fun e => h ⟨by rw [e], by rw [e]⟩⟩
              have D2 := hid0 (D1.out _ _ _ _ rfl rfl rfl rfl)
              have EX : Hid (∀ x y, (d[k + k2]!).1 = x → (d[k + k2]!).2 = y → d[k + k2]! = (x, y)) := by
                rintro x y rfl rfl; rfl
              replace EX := hid0 (EX.out _ _ rfl rfl)
              clear D1 E1 E2
              have hlt3 : kk < n := by omega
              generalize (d[k + k2]!).1 = X at *
              generalize (d[k + k2]!).2 = Y at *
              generalize (d[k + k2 - 1]!).1 = X' at *
              generalize (d[k + k2 - 1]!).2 = Y' at *
              have C := pair_cases (X, Y) (X', Y')
              simp only at C
              rcases C with ⟨e, rfl, rfl⟩ | ⟨e, x1, x2⟩ | ⟨e, x1⟩
              · replace D2 := hid0 (D2.out.1 ⟨rfl, rfl⟩)
                go_wp2
                go_region
                go_wp2
                go_roundw
                case rel => exact ⟨kk, k2 + 1, dk, rfl, by go_num, by omega, by omega, hI.out.skip D2.out, by omega, O.gr ((Gr.refl _).drew), hb.trans ((Gr.refl _).drew.below.mono (Nat.le_trans hgs hb.size))⟩
                case measure => simp [intOf]; omega
              all_goals
                replace D2 := hid0 (D2.out.2 (fun h => e (by rw [h.1, h.2])))
                go_wp2
                go_region
                go_wp2
                go_roundw
                case rel =>
                  refine ⟨kk + 1, k2 + 1, dk.setIfInBounds kk (X, Y), by go_num, by go_num, by omega, by omega, ?_, by omega, ?_, ?_⟩
                  · have := hI.out.keep (by omega) D2.out
                    rw [EX.out] at this
                    exact this
                  · rw [Array.toList_setIfInBounds]
                    exact (O.gr ((Gr.refl _).drew)).set kk hlt3 X Y
                  · exact ((hb.trans ((Gr.refl _).drew.below.mono (Nat.le_trans hgs hb.size))).setCell hg _).setCell hg _
                case measure => simp [intOf]; omega
            · have hend : k + k2 = n := by omega
              have hlt3 : kk < n := by omega
              have hcl : ∀ ty, (Builtin.clear_ #[22] ty #[.slice (some ⟨g, kk * 2, none⟩) (n - kk) (n - kk)]).run Try.prog wr = .ok (.tuple #[]) (wr.setCells g (kk * 2) (List.replicate ((n - kk) * 2) (.int .i32 0))) := fun ty => run_clear_pts wr ty B g n n kk _ dk.toList O hlt3
              have F := own_fill B g n n hg (n - kk) kk dk.toList wr O (by omega)
              generalize wr.setCells g (kk * 2) (List.replicate ((n - kk) * 2) (.int .i32 0)) = wf at *
              have hlen : CD.length = kk := by rw [hcd.out, ← hend]; exact hI.out.len
              go_wp2
              go_ret
              refine ⟨_, by rw [hlen]; rfl, F.1, ?_, hb.trans F.2⟩
              rw [fill_take _ _ _ _ (by omega), hcd.out]
              have hI' := hI.out
              rw [hend] at hI'
              rw [← hcd.out, hlen, hcd.out]
              apply List.ext_getElem?
              intro j
              by_cases hj : j < kk
              · rw [hI'.low j hj, List.getElem?_take_of_lt hj]
                have : j < dk.size := by rw [hI'.size]; omega
                simp [getElem!_pos, this]
              · rw [List.getElem?_eq_none (by simp; omega), List.getElem?_eq_none (by rw [hI'.len]; omega)]
        all_goals
          replace D2 := hid0 (D2.out.2 (fun h => e (by rw [h.1, h.2])))
          go_wp2
          go_region
          go_wp2
          go_roundw
          case rel =>
            refine ⟨k + 1, by omega, by omega, by go_num, ?_, hG.drew⟩
            intro j hj
            by_cases c : j = k
            · subst c; exact D2.out
            · exact hall.out j (by omega)
          case measure => simp [intOf]; omega
      · have hkn : k = n := by omega
        subst hkn
        have e : compactUpTo d k = d.toList := by
          rw [compactUpTo_all d k hall.out, ← hds]
          exact range_map_get d
        have eC : CD = d.toList := hcd.out.trans e
        go_wp2
        go_ret
        exact ⟨d.toList, by rw [eC, hDl]; rfl, O, by rw [eC, List.take_length], hG.below.mono hgs⟩
end
end Go.Proofs.Ytljdnahomhbenaa
