/- The reference's Same. -/
import Derived.Test.YtgcofpfjdplopaaGreatSm9
namespace Go.Proofs.YtgcofpfjdplopaaGreat
section
set_option linter.unusedSimpArgs false
open Go.RowKit Go.Sort

theorem Bl.four_gr9 {w : World} {b t : Nat} {x y z v : Value} (h : Bl w b t #[x, y, z, v]) : (∀ w', Gr w w' → w'.cell? ⟨b, 0, none⟩ = some x) ∧ (∀ w', Gr w w' → w'.cell? ⟨b, 1, none⟩ = some y) ∧ (∀ w', Gr w w' → w'.cell? ⟨b, 2, none⟩ = some z) ∧ (∀ w', Gr w w' → w'.cell? ⟨b, 3, none⟩ = some v) :=
  ⟨fun _ g => (h.gr g).cell rfl, fun _ g => (h.gr g).cell rfl, fun _ g => (h.gr g).cell rfl, fun _ g => (h.gr g).cell rfl⟩
set_option maxRecDepth 20000 in
set_option maxHeartbeats 8000000 in
theorem rSame_any (k s k' s' : Int) (v v' : Hole) (ho ho' : Option Addr) (hc hc' : Nat) (H H' : List Hole) (hv1 : v.2.2.length ≤ 17592186043904) (hF : Few H) (w : World) (hl : H.length ≤ 281474976710656) (hP : Pts w v.1 v.2.2) (hP' : Pts w v'.1 v'.2.2) (hQ : Hls w ho H) (hQ' : Hls w ho' H') :
    Calls Tryz.prog 23 #[shV k v ho H.length hc s, shV k' v' ho' H'.length hc' s'] w fun e w' => e = .returned (.bool (sameB k s v H k' s' v' H')) ∧ Gr w w' := by
  obtain ⟨kA, kB, g⟩ := two_new w 26 26 (shC k v ho H.length hc s) (shC k' v' ho' H'.length hc' s')
  have E1 : Hid (∀ W, Gr w W → Calls Tryz.prog 52 #[hv v, hv v'] W fun e w' => e = .returned (.bool (decide (v.2.2 = v'.2.2))) ∧ Gr W w') := fun W h => rsame_any _ _ _ _ _ _ W (by omega) (hP.mono h.below) (hP'.mono h.below)
  have HR : Hid (sameB k s v H k' s' v' H' = (decide (k = k') && (decide (s = s') && (decide (v.2.2 = v'.2.2) && decide (lst H = lst H'))))) := rfl
  generalize sameB k s v H k' s' v' H' = R at *
  generalize decide (v.2.2 = v'.2.2) = B1 at *
  have C1 : (k = k' ∧ decide (k = k') = true) ∨ ((¬ k = k' ∧ (k == k') = false ∧ (k != k') = true) ∧ decide (k = k') = false) := by
    by_cases h : k = k'
    · exact .inl ⟨h, decide_eq_true h⟩
    · exact .inr ⟨⟨h, beq_eq_false_iff_ne.2 h, by simpa using h⟩, decide_eq_false h⟩
  have C2 : (s = s' ∧ decide (s = s') = true) ∨ ((¬ s = s' ∧ (s == s') = false ∧ (s != s') = true) ∧ decide (s = s') = false) := by
    by_cases h : s = s'
    · exact .inl ⟨h, decide_eq_true h⟩
    · exact .inr ⟨⟨h, beq_eq_false_iff_ne.2 h, by simpa using h⟩, decide_eq_false h⟩
  generalize decide (k = k') = D1 at *
  generalize decide (s = s') = D2 at *
  generalize hg1 : v.2.2.length = n1 at *
  generalize hg2 : v'.2.2.length = n2 at *
  clear hg1 hg2 hP hP' hv1
  rcases C1 with ⟨rfl, rfl⟩ | ⟨⟨b1, b1', b1''⟩, rfl⟩
  · rcases C2 with ⟨rfl, rfl⟩ | ⟨⟨b2, b2', b2''⟩, rfl⟩
    · cases B1 with
      | false =>
        have eR := HR.out
        simp only [Bool.true_and, Bool.false_and, Bool.and_true, Bool.and_false] at eR
        replace eR := hid' eR
        clear HR hQ hQ' hF hl
        generalize H.length = n3 at *
        generalize H'.length = n4 at *
        go_enter Tryz.func23, Tryz.ntmps23
        go_wp2_with (go_at_call 52; refine (E1.out _ g).mono ?_; rintro e w1 ⟨rfl, g1⟩)
        go_ret
        exact ⟨by rw [eR.out]; rfl, g.trans g1⟩
      | true =>
        have eR := HR.out
        simp only [Bool.true_and] at eR
        clear HR
        by_cases hn : H.length = H'.length
        · have HT : Hid ((∀ j, j < H.length → (hAt H j).2.2 = (hAt H' j).2.2) → R = true) := fun h => by rw [eR]; exact decide_eq_true (lst_ext hn h)
          have HF : Hid (∀ j, j < H.length → (hAt H j).2.2 ≠ (hAt H' j).2.2 → R = false) := fun j hj h => by rw [eR]; exact decide_eq_false (fun e => h (lst_at e j hj (by omega)))
          have HA := hid' hQ
          have HB : Hid (∀ i, i < H.length → ∃ b off, ho' = some ⟨b, off, none⟩ ∧ w.cell? ⟨b, off + i, none⟩ = some (hv (hAt H' i)) ∧ Pts w (hAt H' i).1 (hAt H' i).2.2) := fun i hi => hQ' i (by omega)
          have HFew := hid' hF
          rw [← hn] at kA kB g ⊢
          clear hQ hQ' hF hn eR
          go_enter Tryz.func23, Tryz.ntmps23
          go_upto_region 3 with (go_at_call 52; refine (E1.out _ g).mono ?_; rintro e w1 ⟨rfl, g1⟩; obtain ⟨_, _, x2, _⟩ := (kA.gr g1).four9; obtain ⟨_, _, y2, _⟩ := (kB.gr g1).four9)
          replace kA := hid' (kA.gr g1)
          replace kB := hid' (kB.gr g1)
          have G1 := g.trans g1
          clear g g1 x2 y2 E1
          go_wp2
          go_loopw [5] (fun i wr => ∃ k : Nat, k ≤ H.length ∧ i = .int .i64 k ∧ Hid (∀ j, j < k → (hAt H j).2.2 = (hAt H' j).2.2) ∧ Gr w1 wr) (fun i _ => H.length - (intOf i).toNat)
          case atStart => exact ⟨0, by omega, rfl, (by intro j hj; omega), Gr.refl _⟩
          case round =>
            obtain ⟨j, hk, rfl, hE, hG⟩ := hrel
            have hGw := G1.trans hG
            have kA2 := kA.out.gr hG
            have kB2 := kB.out.gr hG
            by_cases hlt : j < H.length
            · obtain ⟨b, off, rfl, p0, P1⟩ := HA.out j hlt
              obtain ⟨b2, off2, rfl, q0, P2⟩ := HB.out j hlt
              have EQ : Hid (∀ W, Gr wr W → Calls Tryz.prog 52 #[hv (hAt H j), hv (hAt H' j)] W fun e w' => e = .returned (.bool (decide ((hAt H j).2.2 = (hAt H' j).2.2))) ∧ Gr W w') := fun W h => rsame_any _ _ _ _ _ _ W (by have := HFew.out j; omega) ((P1.mono hGw.below).mono h.below) ((P2.mono hGw.below).mono h.below)
              replace p0 : ∀ w', Gr wr w' → w'.cell? ⟨b, off + j, none⟩ = some (hv (hAt H j)) := fun w' h => below_cell p0 (hGw.trans h).below
              replace q0 : ∀ w', Gr wr w' → w'.cell? ⟨b2, off2 + j, none⟩ = some (hv (hAt H' j)) := fun w' h => below_cell q0 (hGw.trans h).below
              have HF' := hid' (HF.out j hlt)
              have HE' : Hid ((hAt H j).2.2 = (hAt H' j).2.2 → ∀ i, i < j + 1 → (hAt H i).2.2 = (hAt H' i).2.2) := fun e i hi => by
                by_cases c : i = j
                · subst c; exact e
                · exact hE.out i (by omega)
              obtain ⟨_, _, x2, _⟩ := kA2.four9
              clear HF hE P1 P2 HFew
              generalize hAt H j = A at *
              generalize hAt H' j = B at *
              go_upto_region 6 with fail
              obtain ⟨_, _, x2, _⟩ := kA2.four_gr9
              obtain ⟨_, _, y2, _⟩ := kB2.four_gr9
              by_cases e : A.2.2 = B.2.2
              · rw [decide_eq_true e] at EQ
                replace HE' := hid' (HE'.out e)
                clear HF' e
                go_region_held3 (Gr wr)
                  (first
                    | exact (Gr.refl _).drew
                    | exact Gr.trans (by assumption) (by assumption))
                  (first
                    | (go_at_call 52; refine (EQ.out _ (by assumption)).mono ?_; rintro e w2 ⟨rfl, g2⟩))
                rename_i hH
                clear x2 y2 EQ
                go_wp2
                go_roundw
                case rel => exact ⟨j + 1, by omega, by go_num, HE', hG.trans hH⟩
                case measure => simp [intOf]; omega
              · rw [decide_eq_false e] at EQ
                have eF := hid' (HF'.out e)
                clear HF' HE' e HT
                go_region_held3 (Gr wr)
                  (first
                    | exact (Gr.refl _).drew
                    | exact Gr.trans (by assumption) (by assumption))
                  (first
                    | (go_at_call 52; refine (EQ.out _ (by assumption)).mono ?_; rintro e w2 ⟨rfl, g2⟩))
                rename_i hH
                clear x2 y2 EQ
                go_wp2
                go_ret
                exact ⟨by rw [eF.out]; rfl, hGw.trans hH⟩
            · obtain rfl : j = H.length := by omega
              obtain ⟨_, _, x2, _⟩ := kA2.four9
              have eT := hid' (HT.out hE.out)
              clear HT HF
              go_wp2
              go_ret
              exact ⟨by rw [eT.out]; rfl, hGw⟩
        · have eF : R = false := by rw [eR]; exact decide_eq_false (fun e => hn (by have := congrArg List.length e; simpa [lst] using this))
          have hn' : ((H.length : Int) == (H'.length : Int)) = false := beq_eq_false_iff_ne.2 (by omega)
          have hn2 : ¬ (H.length : Int) = (H'.length : Int) := by omega
          have hn3 : ((H.length : Int) != (H'.length : Int)) = true := by rw [bne, hn']; rfl
          clear hQ hQ' hF eR
          replace eF := hid' eF
          go_enter Tryz.func23, Tryz.ntmps23
          go_wp2_with (go_at_call 52; refine (E1.out _ g).mono ?_; rintro e w1 ⟨rfl, g1⟩; obtain ⟨_, _, x2, _⟩ := (kA.gr g1).four9; obtain ⟨_, _, y2, _⟩ := (kB.gr g1).four9)
          go_ret
          exact ⟨by rw [eF.out]; rfl, g.trans g1⟩
    · have eR := HR.out
      simp only [Bool.true_and, Bool.false_and] at eR
      replace eR := hid' eR
      clear HR hQ hQ' hF hl
      generalize H.length = n3 at *
      generalize H'.length = n4 at *
      go_enter Tryz.func23, Tryz.ntmps23
      go_wp2
      go_ret
      exact ⟨by rw [eR.out]; rfl, g⟩
  · have eR := HR.out
    simp only [Bool.false_and] at eR
    replace eR := hid' eR
    clear HR hQ hQ' hF hl
    generalize H.length = n3 at *
    generalize H'.length = n4 at *
    go_enter Tryz.func23, Tryz.ntmps23
    go_wp2
    go_ret
    exact ⟨by rw [eR.out]; rfl, g⟩
end
end Go.Proofs.YtgcofpfjdplopaaGreat
