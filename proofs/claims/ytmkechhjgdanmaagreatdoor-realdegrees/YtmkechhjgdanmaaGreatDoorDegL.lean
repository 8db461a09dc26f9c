/- The law on degrees, walked. -/
import Derived.Test.YtmkechhjgdanmaaGreatDoorDegE
import Derived.Test.YtmkechhjgdanmaaGreatDoorLives
namespace Go.Proofs.YtmkechhjgdanmaaGreatDoor
open Go.RowKit Go.Sort Go.Lib

theorem btr {a b c : World} (h : RowKit.Below a.heap.size a b) (g : RowKit.Below b.heap.size b c) : RowKit.Below a.heap.size a c := h.trans (g.mono h.size)
set_option maxRecDepth 20000 in
set_option maxHeartbeats 4000000 in
theorem degrees_walk (l : List UInt8) (hl : l.length ≤ 281474976710656) (m : Int) (hm : -2147483648 ≤ m ∧ m ≤ 2147483647) (w : World) (hP : LvP w) (hF : LvF w) (hT : TabIs Tryz.prog w "internal/strconv.uint64pow10" .u64 pow10Tab) :
    Calls Tryz.prog 8 #[.string ⟨l.toArray⟩, .int .i32 m] w fun e w' => e = .returned (.bool true) ∧ RowKit.Below w.heap.size w w' := by
  have HP := hid' hP
  have HF := hid' hF
  have HT := hid' hT
  clear hP hF hT
  have hbd := micro_bd l
  obtain ⟨n, hn⟩ : ∃ n, (microV l).1 = n := ⟨_, rfl⟩
  obtain ⟨c, hc⟩ : ∃ c, (microV l).2 = c := ⟨_, rfl⟩
  have hv : micV l = .tuple #[.int .i32 n, .int .i64 c] := by unfold micV; rw [hn, hc]
  rw [hn] at hbd
  have H38 : Hid (∀ w, Calls Tryz.prog 38 #[.string ⟨l.toArray⟩] w fun e w' => e = .returned (.tuple #[.int .i32 n, .int .i64 c]) ∧ RowKit.Below w.heap.size w w') := fun w => by
    have := micro_any l hl w
    rw [hv] at this
    exact this
  have H39 : Hid (∀ w, Calls Tryz.prog 39 #[.string ⟨l.toArray⟩] w fun e w' => e = .returned (.tuple #[.int .i32 n, .int .i64 c]) ∧ w' = w) := fun w => by
    have := micr_any l hl w
    rw [hv] at this
    exact this
  have H40 := hid' (fun w h => deg_any m hm w h)
  have H41 := hid' (fun w => degr_any m hm w)
  have H40n := hid' (fun w h => deg_any n (by omega) w h)
  have H38n : Hid (∀ w, Calls Tryz.prog 38 #[.string ⟨(degT n).toArray⟩] w fun e w' => e = .returned (.tuple #[.int .i32 n, .int .i64 0]) ∧ RowKit.Below w.heap.size w w') := fun w => by
    have := micro_any (degT n) (by have := deg_len n (by omega); omega) w
    unfold micV at this
    rw [micro_deg n hbd] at this
    exact this
  obtain ⟨b, hb⟩ : ∃ b, (microV (degT m)).1 = b := ⟨_, rfl⟩
  obtain ⟨g, hg⟩ : ∃ g, (microV (degT m)).2 = g := ⟨_, rfl⟩
  have H38b : Hid (∀ w, Calls Tryz.prog 38 #[.string ⟨(degT m).toArray⟩] w fun e w' => e = .returned (.tuple #[.int .i32 b, .int .i64 g]) ∧ RowKit.Below w.heap.size w w') := fun w => by
    have := micro_any (degT m) (by have := deg_len m (by omega); omega) w
    unfold micV at this
    rw [hb, hg] at this
    exact this
  have HM : Hid (m.natAbs ≤ 180000000 → b = m ∧ g = 0) := fun h => by
    rw [micro_deg m h] at hb hg
    exact ⟨hb.symm, hg.symm⟩
  clear hn hc hv hb hg
  generalize degT m = G at *
  generalize degT n = N at *
  clear hl hbd
  by_cases h1 : m < -180000000
  · clear HM
    by_cases hc0 : c = 0
    · subst hc0
      go_enter Tryz.func8, Tryz.ntmps8
      go_upto_region 2 with (go_at_call 38; refine (H38.out _).mono ?_; rintro e w1 ⟨rfl, l1⟩)
      go_upto_region 3 with (go_at_call 39; refine (H39.out _).mono ?_; rintro e w' ⟨rfl, rfl⟩)
      go_upto_region 4 with (go_at_call 40; refine (H40.out _ (tab_gr HT.out l1)).mono ?_; rintro e w2 ⟨rfl, g2⟩)
      have l2 := btr l1 g2.below
      clear l1 g2
      go_upto_region 6 with (go_at_call 41; refine (H41.out _).mono ?_; rintro e w3 ⟨rfl, g3⟩)
      have l3 := btr l2 g3.below
      clear l2 g3
      go_upto_region 7 with (go_at_call 38; refine (H38b.out _).mono ?_; rintro e w4 ⟨rfl, b4⟩)
      have l4 := btr l3 b4
      clear l3 b4
      go_upto_region 10 with fail
      go_upto_region 11 with (first
        | (go_at_call 40; refine (H40n.out _ (tab_gr HT.out l4)).mono ?_; rintro e w5 ⟨rfl, g5⟩)
        | (go_at_call 38; refine (H38n.out _).mono ?_; rintro e w6 ⟨rfl, b6⟩))
      have l6 := btr (btr l4 g5.below) b6
      have HL := hid' (lives_any w6 (HP.out.mono l6) (HF.out.mono l6))
      clear l4 g5 b6
      go_wp2_with (go_at_call 22; refine HL.out.mono ?_; rintro e w7 ⟨rfl, b7⟩)
      go_ret
      exact ⟨rfl, btr l6 b7⟩
    · have hc0' : (c == 0) = false := by rw [beq_eq_false_iff_ne]; exact hc0
      go_enter Tryz.func8, Tryz.ntmps8
      go_upto_region 2 with (go_at_call 38; refine (H38.out _).mono ?_; rintro e w1 ⟨rfl, l1⟩)
      go_upto_region 3 with (go_at_call 39; refine (H39.out _).mono ?_; rintro e w' ⟨rfl, rfl⟩)
      go_upto_region 4 with (go_at_call 40; refine (H40.out _ (tab_gr HT.out l1)).mono ?_; rintro e w2 ⟨rfl, g2⟩)
      have l2 := btr l1 g2.below
      clear l1 g2
      go_upto_region 6 with (go_at_call 41; refine (H41.out _).mono ?_; rintro e w3 ⟨rfl, g3⟩)
      have l3 := btr l2 g3.below
      clear l2 g3
      go_upto_region 7 with (go_at_call 38; refine (H38b.out _).mono ?_; rintro e w4 ⟨rfl, b4⟩)
      have l4 := btr l3 b4
      clear l3 b4
      have HL := hid' (lives_any w4 (HP.out.mono l4) (HF.out.mono l4))
      go_wp2_with (go_at_call 22; refine HL.out.mono ?_; rintro e w7 ⟨rfl, b7⟩)
      go_ret
      exact ⟨rfl, btr l4 b7⟩
  · by_cases h2 : 180000000 < m
    · clear HM
      by_cases hc0 : c = 0
      · subst hc0
        go_enter Tryz.func8, Tryz.ntmps8
        go_upto_region 2 with (go_at_call 38; refine (H38.out _).mono ?_; rintro e w1 ⟨rfl, l1⟩)
        go_upto_region 3 with (go_at_call 39; refine (H39.out _).mono ?_; rintro e w' ⟨rfl, rfl⟩)
        go_upto_region 4 with (go_at_call 40; refine (H40.out _ (tab_gr HT.out l1)).mono ?_; rintro e w2 ⟨rfl, g2⟩)
        have l2 := btr l1 g2.below
        clear l1 g2
        go_upto_region 6 with (go_at_call 41; refine (H41.out _).mono ?_; rintro e w3 ⟨rfl, g3⟩)
        have l3 := btr l2 g3.below
        clear l2 g3
        go_upto_region 7 with (go_at_call 38; refine (H38b.out _).mono ?_; rintro e w4 ⟨rfl, b4⟩)
        have l4 := btr l3 b4
        clear l3 b4
        go_upto_region 10 with fail
        go_upto_region 11 with (first
          | (go_at_call 40; refine (H40n.out _ (tab_gr HT.out l4)).mono ?_; rintro e w5 ⟨rfl, g5⟩)
          | (go_at_call 38; refine (H38n.out _).mono ?_; rintro e w6 ⟨rfl, b6⟩))
        have l6 := btr (btr l4 g5.below) b6
        have HL := hid' (lives_any w6 (HP.out.mono l6) (HF.out.mono l6))
        clear l4 g5 b6
        go_wp2_with (go_at_call 22; refine HL.out.mono ?_; rintro e w7 ⟨rfl, b7⟩)
        go_ret
        exact ⟨rfl, btr l6 b7⟩
      · have hc0' : (c == 0) = false := by rw [beq_eq_false_iff_ne]; exact hc0
        go_enter Tryz.func8, Tryz.ntmps8
        go_upto_region 2 with (go_at_call 38; refine (H38.out _).mono ?_; rintro e w1 ⟨rfl, l1⟩)
        go_upto_region 3 with (go_at_call 39; refine (H39.out _).mono ?_; rintro e w' ⟨rfl, rfl⟩)
        go_upto_region 4 with (go_at_call 40; refine (H40.out _ (tab_gr HT.out l1)).mono ?_; rintro e w2 ⟨rfl, g2⟩)
        have l2 := btr l1 g2.below
        clear l1 g2
        go_upto_region 6 with (go_at_call 41; refine (H41.out _).mono ?_; rintro e w3 ⟨rfl, g3⟩)
        have l3 := btr l2 g3.below
        clear l2 g3
        go_upto_region 7 with (go_at_call 38; refine (H38b.out _).mono ?_; rintro e w4 ⟨rfl, b4⟩)
        have l4 := btr l3 b4
        clear l3 b4
        have HL := hid' (lives_any w4 (HP.out.mono l4) (HF.out.mono l4))
        go_wp2_with (go_at_call 22; refine HL.out.mono ?_; rintro e w7 ⟨rfl, b7⟩)
        go_ret
        exact ⟨rfl, btr l4 b7⟩
    · obtain ⟨rfl, rfl⟩ := HM.out (by omega)
      clear HM
      by_cases hc0 : c = 0
      · subst hc0
        go_enter Tryz.func8, Tryz.ntmps8
        go_upto_region 2 with (go_at_call 38; refine (H38.out _).mono ?_; rintro e w1 ⟨rfl, l1⟩)
        go_upto_region 3 with (go_at_call 39; refine (H39.out _).mono ?_; rintro e w' ⟨rfl, rfl⟩)
        go_upto_region 4 with (go_at_call 40; refine (H40.out _ (tab_gr HT.out l1)).mono ?_; rintro e w2 ⟨rfl, g2⟩)
        have l2 := btr l1 g2.below
        clear l1 g2
        go_upto_region 6 with (go_at_call 41; refine (H41.out _).mono ?_; rintro e w3 ⟨rfl, g3⟩)
        have l3 := btr l2 g3.below
        clear l2 g3
        go_upto_region 7 with (go_at_call 38; refine (H38b.out _).mono ?_; rintro e w4 ⟨rfl, b4⟩)
        have l4 := btr l3 b4
        clear l3 b4
        go_upto_region 10 with fail
        go_upto_region 11 with (first
          | (go_at_call 40; refine (H40n.out _ (tab_gr HT.out l4)).mono ?_; rintro e w5 ⟨rfl, g5⟩)
          | (go_at_call 38; refine (H38n.out _).mono ?_; rintro e w6 ⟨rfl, b6⟩))
        have l6 := btr (btr l4 g5.below) b6
        have HL := hid' (lives_any w6 (HP.out.mono l6) (HF.out.mono l6))
        clear l4 g5 b6
        go_wp2_with (go_at_call 22; refine HL.out.mono ?_; rintro e w7 ⟨rfl, b7⟩)
        go_ret
        exact ⟨rfl, btr l6 b7⟩
      · have hc0' : (c == 0) = false := by rw [beq_eq_false_iff_ne]; exact hc0
        go_enter Tryz.func8, Tryz.ntmps8
        go_upto_region 2 with (go_at_call 38; refine (H38.out _).mono ?_; rintro e w1 ⟨rfl, l1⟩)
        go_upto_region 3 with (go_at_call 39; refine (H39.out _).mono ?_; rintro e w' ⟨rfl, rfl⟩)
        go_upto_region 4 with (go_at_call 40; refine (H40.out _ (tab_gr HT.out l1)).mono ?_; rintro e w2 ⟨rfl, g2⟩)
        have l2 := btr l1 g2.below
        clear l1 g2
        go_upto_region 6 with (go_at_call 41; refine (H41.out _).mono ?_; rintro e w3 ⟨rfl, g3⟩)
        have l3 := btr l2 g3.below
        clear l2 g3
        go_upto_region 7 with (go_at_call 38; refine (H38b.out _).mono ?_; rintro e w4 ⟨rfl, b4⟩)
        have l4 := btr l3 b4
        clear l3 b4
        have HL := hid' (lives_any w4 (HP.out.mono l4) (HF.out.mono l4))
        go_wp2_with (go_at_call 22; refine HL.out.mono ?_; rintro e w7 ⟨rfl, b7⟩)
        go_ret
        exact ⟨rfl, btr l4 b7⟩
end Go.Proofs.YtmkechhjgdanmaaGreatDoor
