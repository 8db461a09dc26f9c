/- The law RealAll, walked: for any whole numbers and any turn the call returns true, and the memory that was there is as it was. -/
import Derived.Test.YtmkechhjgdanmaaGreatDoorSlices
import Derived.Test.YtmkechhjgdanmaaGreatDoorAllP
import Derived.Test.YtmkechhjgdanmaaGreatDoorLives
namespace Go.Proofs.YtmkechhjgdanmaaGreatDoor
open Go.RowKit Go.Sort

set_option maxRecDepth 20000 in
set_option maxHeartbeats 6400000 in
theorem all_walk (v : Value) (z : List Int) (turn : Int) (w : World) (hv : Zs w .i64 v z) (hz : ∀ i, -9223372036854775808 ≤ z.getD i 0 ∧ z.getD i 0 ≤ 9223372036854775807)
    (hn : z.length * 8 ≤ 140737488351232) (hP : LvP w) (hF : LvF w) :
    Calls Tryz.prog 6 #[v, .int .i64 turn] w fun e w' => e = .returned (.bool true) ∧ Below w.heap.size w w' := by
  obtain ⟨ao, cap, rfl, hc⟩ := hv
  obtain ⟨i0, hi', hz0, hz1, hz2⟩ := info_parts Tryz.info23
  have HC := hid' hc
  have HZ := hid' hz
  have HP := hid' hP
  have HF := hid' hF
  clear hc hz hP hF
  go_enter Tryz.func6, Tryz.ntmps6
  go_wp2
  go_loopw [5, 6, 7, 8] (fun v5 v6 v7 v8 wr => ∃ (k : Nat) (sv : Value), k ≤ z.length ∧ v5 = sv ∧ Hid (wr.ownsRow w.heap.size 23 1 sv k (fls ((flz z).take k))) ∧ v6 = .int .i64 (psum z k) ∧ v7 = .int .i64 (pabs z k : Nat) ∧ v8 = .int .i64 k ∧ pabs z k ≤ 9007199254740992 ∧ Hid (Below w.heap.size w wr) ∧ w.heap.size ≤ wr.heap.size) (fun _ _ _ v8 _ => z.length - (intOf v8).toNat)
  case atStart => exact ⟨0, _, by omega, rfl, nil_own w _, rfl, rfl, rfl, Nat.zero_le _, Below.refl _ _, Nat.le_refl _⟩
  case round =>
    obtain ⟨k, sv, hk, rfl, hO, rfl, rfl, rfl, hp, hB, hsz⟩ := hrel
    by_cases hlt : k < z.length
    · obtain ⟨b, off, rfl, hcell⟩ := HC.out k hlt
      have r1 := below_cell hcell hB.out
      have hzk := HZ.out k
      have ps := psum_le z k
      have HL := hid' (lives_any wr (HP.out.mono hB.out) (HF.out.mono hB.out))
      have E1 : Hid (psum z (k + 1) = psum z k + z.getD k 0) := rfl
      have E2 : Hid (pabs z (k + 1) = pabs z k + (z.getD k 0).natAbs) := rfl
      have E3 : Hid ((flz z).getD k 0 = floatOfInt .f64 (z.getD k 0)) := flz_at z k hlt
      clear hcell
      generalize hx : z.getD k 0 = x at *
      clear hx
      generalize psum z k = S at *
      generalize pabs z k = A at *
      by_cases hbig : x > 9007199254740992 ∨ x < -9007199254740992
      · have d : (decide (x > 9007199254740992) || decide (x < -9007199254740992)) = true := by simpa using hbig
        rcases hbig with hb | hb
        · go_wp2_with (go_at_call 22; refine HL.out.mono ?_; rintro e w2 ⟨rfl, l2⟩)
          go_ret
          exact ⟨rfl, hB.out.trans (l2.mono hsz)⟩
        · go_wp2_with (go_at_call 22; refine HL.out.mono ?_; rintro e w2 ⟨rfl, l2⟩)
          go_ret
          exact ⟨rfl, hB.out.trans (l2.mono hsz)⟩
      · have hb1 : ¬ x > 9007199254740992 := fun h => hbig (.inl h)
        have hb2 : ¬ x < -9007199254740992 := fun h => hbig (.inr h)
        clear hbig
        by_cases hneg : x < 0
        · skip
          have na : ((A + x.natAbs : Nat) : Int) = (A : Int) - x := by omega
          by_cases hs : (A : Int) - x > 9007199254740992
          · go_wp2_with (go_at_call 22; refine HL.out.mono ?_; rintro e w2 ⟨rfl, l2⟩)
            go_ret
            exact ⟨rfl, hB.out.trans (l2.mono hsz)⟩
          · clear HL
            go_wp2_with (at_builtin; refine wpList_append_own _ rfl (.tmp 45) (.tmp 48) 44 rfl w.heap.size 23 i0 (.float .f64 0) 1 8 Tryz.underlying44 hi' hz0 hz1 hz2 rfl (by decide) _ k _ rfl (hO.out.alloc _) ⟨wr.heap.size, 0, none⟩ 1 1 [.float .f64 (floatOfInt .f64 x)] rfl rfl (one_cells _ _ _) (fun u hu => by simp at hu; subst hu; rfl) (by unfold maxLen; omega) (by omega) (by simp; omega) ?_; intro sv' w' ho' hg' _)
            have HB2 := hid' (push_below hO.out hB.out hsz hg')
            have hsz2 := Nat.le_trans hsz (push_size hg')
            have HO2 : Hid (w'.ownsRow w.heap.size 23 1 sv' (k + 1) (fls ((flz z).take (k + 1)))) := by
              have e := fls_one (flz z) k (by rw [flz_len]; exact hlt)
              rw [E3.out] at e
              show w'.ownsRow w.heap.size 23 1 sv' (k + 1) (fls ((flz z).take (k + 1)))
              rw [← e]; exact ho'
            clear hO hB ho' hg' r1
            go_wp2
            go_roundw
            case rel => exact ⟨k + 1, sv', by omega, rfl, HO2, by rw [E1.out], by rw [E2.out, na], by go_num, by rw [E2.out]; omega, HB2, hsz2⟩
            case measure => simp [intOf]; omega
        · skip
          have na : ((A + x.natAbs : Nat) : Int) = (A : Int) + x := by omega
          by_cases hs : (A : Int) + x > 9007199254740992
          · go_wp2_with (go_at_call 22; refine HL.out.mono ?_; rintro e w2 ⟨rfl, l2⟩)
            go_ret
            exact ⟨rfl, hB.out.trans (l2.mono hsz)⟩
          · clear HL
            go_wp2_with (at_builtin; refine wpList_append_own _ rfl (.tmp 45) (.tmp 48) 44 rfl w.heap.size 23 i0 (.float .f64 0) 1 8 Tryz.underlying44 hi' hz0 hz1 hz2 rfl (by decide) _ k _ rfl (hO.out.alloc _) ⟨wr.heap.size, 0, none⟩ 1 1 [.float .f64 (floatOfInt .f64 x)] rfl rfl (one_cells _ _ _) (fun u hu => by simp at hu; subst hu; rfl) (by unfold maxLen; omega) (by omega) (by simp; omega) ?_; intro sv' w' ho' hg' _)
            have HB2 := hid' (push_below hO.out hB.out hsz hg')
            have hsz2 := Nat.le_trans hsz (push_size hg')
            have HO2 : Hid (w'.ownsRow w.heap.size 23 1 sv' (k + 1) (fls ((flz z).take (k + 1)))) := by
              have e := fls_one (flz z) k (by rw [flz_len]; exact hlt)
              rw [E3.out] at e
              show w'.ownsRow w.heap.size 23 1 sv' (k + 1) (fls ((flz z).take (k + 1)))
              rw [← e]; exact ho'
            clear hO hB ho' hg' r1
            go_wp2
            go_roundw
            case rel => exact ⟨k + 1, sv', by omega, rfl, HO2, by rw [E1.out], by rw [E2.out, na], by go_num, by rw [E2.out]; omega, HB2, hsz2⟩
            case measure => simp [intOf]; omega
    · have hkn : k = z.length := by omega
      subst hkn
      have hO2 : wr.ownsRow w.heap.size 23 1 u5 (flz z).length (fls (flz z)) := by
        have := hO.out
        rw [← flz_len z, List.take_length] at this
        exact this
      have hT : tab z ≤ 9007199254740992 := by rw [← pabs_all]; exact hp
      have hpt := psum_all z
      have HS1 := hid' (fun w' g => sum_any u5 (flz z) w' ((Fs.of_own hO2).mono g) (flz_lt z) (by rw [flz_len]; omega))
      have HQ : Hid (∀ y r, tab y ≤ 9007199254740992 → tot z = tot y → sumR (flz y) r → FloatKind.f64.format.order r (floatOfInt .f64 (psum z z.length)) = some .eq) := fun y r h1 h2 h3 => by
        rw [hpt]; exact sum_eq h1 h3 h2
      obtain ⟨ax, capx, hsv, hcx1, hcx2, hcx⟩ := own_shape hO2
      have HT := hid' hT
      rw [flz_len] at hsv hcx1 hcx
      subst hsv
      have HX := hid' hcx
      clear hO hO2 hp hT hpt hcx
      generalize psum z z.length = S at *
      go_upto_region 19 with (go_at_call 26; refine (HS1.out _ (Below.refl _ _)).mono ?_; rintro e w1 ⟨r, rfl, hr, g1⟩; have o1 := HQ.out z r HT.out rfl hr)
      have HB1 : Hid (Below w.heap.size w w1) := hB.out.trans (g1.below.mono hsz)
      have hsz1 : w.heap.size ≤ w1.heap.size := Nat.le_trans hsz g1.size
      have HX1 : Hid (∀ i, i < z.length → ∃ g, ax = some ⟨g, 0, none⟩ ∧ w1.cell? ⟨g, i, none⟩ = some (.float .f64 ((flz z).getD i 0))) := fun i hi => by
        obtain ⟨g, e, hc⟩ := HX.out i hi
        exact ⟨g, e, below_cell hc g1.below⟩
      clear hB hsz g1 hr o1 HS1 HX HC
      go_wp2
      go_loopw [10, 11] (fun v10 v11 wr => ∃ (m : Nat) (i : Int), m ≤ z.length ∧ i = (m : Int) - 1 ∧ Hid (wr.ownsRow w1.heap.size 23 1 v10 (z.length - m) (fls ((flz z.reverse).take (z.length - m)))) ∧ v11 = .int .i64 i ∧ Hid (Below w1.heap.size w1 wr) ∧ w1.heap.size ≤ wr.heap.size) (fun _ v11 _ => (intOf v11 + 1).toNat)
      case atStart => exact ⟨z.length, _, Nat.le_refl _, rfl, by rw [Nat.sub_self]; exact nil_own w1 _, rfl, Below.refl _ _, Nat.le_refl _⟩
      case round =>
        obtain ⟨m, i, hm, hi, hO, rfl, hB, hsz⟩ := hrel
        cases m with
        | succ q =>
          obtain rfl : i = (q : Int) := by omega
          clear hi
          obtain ⟨g, rfl, hcell⟩ := HX1.out q (by omega)
          have r1 := below_cell hcell hB.out
          have E3 : Hid ((flz z.reverse).getD (z.length - (q + 1)) 0 = (flz z).getD q 0) := rev_at z q (by omega)
          have E4 : Hid (z.length - q = z.length - (q + 1) + 1) := by show z.length - q = _; omega
          clear hcell
          generalize (flz z).getD q 0 = x at *
          generalize hjj : z.length - (q + 1) = j at *
          have hjl : j < z.length := by omega
          clear hjj
          go_wp2_with (at_builtin; refine wpList_append_own _ rfl (.tmp 62) (.tmp 67) 44 rfl w1.heap.size 23 i0 (.float .f64 0) 1 8 Tryz.underlying44 hi' hz0 hz1 hz2 rfl (by decide) _ j _ rfl (hO.out.alloc _) ⟨wr.heap.size, 0, none⟩ 1 1 [.float .f64 x] rfl rfl (one_cells _ _ _) (fun u hu => by simp at hu; subst hu; rfl) (by unfold maxLen; omega) (by omega) (by simp; omega) ?_; intro sv' w' ho' hg' _)
          have HB2 := hid' (push_below hO.out hB.out hsz hg')
          have hsz2 := Nat.le_trans hsz (push_size hg')
          have HO2 : Hid (w'.ownsRow w1.heap.size 23 1 sv' (z.length - q) (fls ((flz z.reverse).take (z.length - q)))) := by
            have e := fls_one (flz z.reverse) j (by rw [flz_len, List.length_reverse]; omega)
            rw [E3.out] at e
            show w'.ownsRow w1.heap.size 23 1 sv' (z.length - q) (fls ((flz z.reverse).take (z.length - q)))
            rw [E4.out, ← e]; exact ho'
          clear hO hB ho' hg' r1
          go_wp2
          go_roundw
          case rel => exact ⟨q, (q : Int) - 1, by omega, rfl, HO2, rfl, HB2, hsz2⟩
          case measure => simp [intOf]
        | zero =>
          obtain rfl : i = -1 := by omega
          clear hi
          have hOy : wr.ownsRow w1.heap.size 23 1 u10 (flz z.reverse).length (fls (flz z.reverse)) := by
            have := hO.out
            rw [show z.length - 0 = (flz z.reverse).length from by rw [flz_len, List.length_reverse, Nat.sub_zero], List.take_length] at this
            exact this
          have HSy := hid' (sum_any u10 (flz z.reverse) wr (Fs.of_own hOy) (flz_lt _) (by rw [flz_len, List.length_reverse]; omega))
          have HBw := hid' (HB1.out.trans (hB.out.mono hsz1))
          have hszw := Nat.le_trans hsz1 hsz
          have HX2 : Hid (∀ i, i < z.length → ∃ g, ax = some ⟨g, 0, none⟩ ∧ wr.cell? ⟨g, i, none⟩ = some (.float .f64 ((flz z).getD i 0))) := fun i hi => by
            obtain ⟨g, e, hc⟩ := HX1.out i hi
            exact ⟨g, e, below_cell hc hB.out⟩
          clear hO hOy HX1 HB1 hB
          go_upto_region 26 with (go_at_call 26; refine HSy.out.mono ?_; rintro e w2 ⟨r, rfl, hr, g2⟩; have o2 := HQ.out z.reverse r (by rw [tab_rev]; exact HT.out) (tot_rev z).symm hr)
          have HL := hid' (fun w' (g : Below wr.heap.size wr w') => lives_any w' (HP.out.mono (HBw.out.trans (g.mono hszw))) (HF.out.mono (HBw.out.trans (g.mono hszw))))
          have HB2 := hid' (HBw.out.trans (g2.below.mono hszw))
          have HG2 := hid' g2.below
          have hsz2 := Nat.le_trans hszw g2.size
          have HX3 : Hid (∀ i, i < z.length → ∃ g, ax = some ⟨g, 0, none⟩ ∧ w2.cell? ⟨g, i, none⟩ = some (.float .f64 ((flz z).getD i 0))) := fun i hi => by
            obtain ⟨g, e, hc⟩ := HX2.out i hi
            exact ⟨g, e, below_cell hc g2.below⟩
          clear HX2 HBw g2 hr o2 HSy
          by_cases h0 : z.length = 0
          · have h0' : ((z.length : Int) == 0) = true := by simp [h0]
            go_wp2_with (go_at_call 22; refine (HL.out _ HG2.out).mono ?_; rintro e w3 ⟨rfl, l3⟩)
            go_ret
            exact ⟨rfl, HB2.out.trans (l3.mono hsz2)⟩
          · obtain ⟨g, rfl, _⟩ := HX3.out 0 (by omega)
            obtain ⟨kk, hk1, hk2, hk3, hk4⟩ := rot_k turn z.length (by omega)
            go_upto_region 29 with fail
            have hcx : ∀ i, i < (flz z).length → w2.cell? ⟨g, i, none⟩ = some (.float .f64 ((flz z).getD i 0)) := fun i hi => by
              rw [flz_len] at hi
              obtain ⟨g', e, hc⟩ := HX3.out i hi
              cases e
              exact hc
            have HC2 := hid' hcx
            have hgl : g < w2.heap.size := World.block_lt_of_cell? w2 _ (hcx 0 (by rw [flz_len]; omega))
            clear hcx HX3 hk2 hk3 hk4
            go_upto_region 31 with (at_builtin; refine wpList_append_own _ rfl (.tmp 88) (.tmp 91) 44 rfl w2.heap.size 23 i0 (.float .f64 0) 1 8 Tryz.underlying44 hi' hz0 hz1 hz2 rfl (by decide) (.slice none 0 0) 0 [] rfl (nil_own w2 _) ⟨g, kk, none⟩ (z.length - kk) (capx - kk) (fls ((flz z).drop kk)) rfl (by rw [fls_len, List.length_drop, flz_len, Nat.mul_one]) (news_drop HC2.out) fls_one_cell (by unfold maxLen; omega) (by omega) (Nat.le_refl _) ?_; intro s1 w3 o3 g3 _)
            have b3 : Below w2.heap.size w2 w3 := (Below.refl w2.heap.size w2).grown g3 (Nat.le_refl _) (fun k hk => by cases hk)
            have HC3 : Hid (∀ i, i < (flz z).length → w3.cell? ⟨g, i, none⟩ = some (.float .f64 ((flz z).getD i 0))) := fun i hi => below_cell (HC2.out i hi) b3
            have HO3 := hid' o3
            have hsz3 := g3.size
            have HB3 := hid' b3
            clear o3 g3 b3 HC2
            go_upto_region 32 with (at_builtin; refine wpList_append_own _ rfl (.tmp 93) (.tmp 96) 44 rfl w2.heap.size 23 i0 (.float .f64 0) 1 8 Tryz.underlying44 hi' hz0 hz1 hz2 rfl (by decide) s1 (0 + (z.length - kk)) _ rfl HO3.out ⟨g, 0, none⟩ kk capx (fls ((flz z).take kk)) rfl (by rw [fls_len, List.length_take, flz_len, Nat.mul_one]; omega) (news_take HC3.out) fls_one_cell (by unfold maxLen; omega) (by omega) hsz3 ?_; intro s2 w4 o4 g4 _)
            have b4 : Below w2.heap.size w2 w4 := HB3.out.grown g4 hsz3 (fun k hk => (HO3.out.lt k hk).1)
            have hO4 : w4.ownsRow w2.heap.size 23 1 s2 (flz (z.drop kk ++ z.take kk)).length (fls (flz (z.drop kk ++ z.take kk))) := by
              rw [← flz_rot]
              have e : fls ((flz z).drop kk ++ (flz z).take kk) = [] ++ fls ((flz z).drop kk) ++ fls ((flz z).take kk) := by simp [fls]
              rw [e, show ((flz z).drop kk ++ (flz z).take kk).length = 0 + (z.length - kk) + kk from by rw [List.length_append, List.length_drop, List.length_take, flz_len]; omega]
              exact o4
            have HS4 := hid' (sum_any s2 (flz (z.drop kk ++ z.take kk)) w4 (Fs.of_own hO4) (flz_lt _) (by rw [flz_len, List.length_append, List.length_drop, List.length_take]; omega))
            have HB4 := hid' b4
            have hsz4 := b4.size
            clear hO4 o4 g4 b4 HO3 HC3 HB3
            go_wp2_with (first
              | (go_at_call 26; refine HS4.out.mono ?_; rintro e w5 ⟨r, rfl, hr, g5⟩; have o5 := HQ.out (z.drop kk ++ z.take kk) r (by rw [tab_rot]; exact HT.out) (tot_rot z kk).symm hr)
              | (go_at_call 22; refine (HL.out _ (HG2.out.trans ((HB4.out.trans (g5.below.mono hsz4)).mono HG2.out.size))).mono ?_; rintro e w6 ⟨rfl, l6⟩))
            go_ret
            refine ⟨rfl, ?_⟩
            have h5 := HB4.out.trans (g5.below.mono hsz4)
            exact (HB2.out.trans (h5.mono hsz2)).trans (l6.mono (Nat.le_trans hsz2 h5.size))
end Go.Proofs.YtmkechhjgdanmaaGreatDoor
