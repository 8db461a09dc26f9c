/- The law's Spoilt on any row of the call's own; the law HullExact, walked. -/
import Derived.Test.YtljdnahomhbenaaRh
namespace Go.Proofs.Ytljdnahomhbenaa
section
set_option linter.unusedSimpArgs false
open Go.RowKit Go.Sort Go.Lib

theorem own_all {w : World} {base n : Nat} {sv : Value} {R : List (Int × Int)} (h : w.ownsRow base 28 2 sv n (flat R)) : ∃ ro rc, sv = .slice ro n rc ∧ Pts w ro R ∧ R.length = n ∧ (ro = none → n = 0 ∧ rc = 0) ∧ (∀ a, ro = some a → a.spot = none) := by
  have hl : R.length = n := by have := h.1; rw [flat_len] at this; omega
  rcases h.2 with ⟨rfl, hn⟩ | ⟨g, cap, cur, rfl, _, _, h3, _⟩
  · exact ⟨none, 0, by rw [hn], fun i hi => by omega, hl, fun _ => ⟨hn, rfl⟩, fun a h => by cases h⟩
  · exact ⟨_, cap, rfl, Pts.of_own (base := base) (cap := cap) (by rw [hl]; exact h), hl, ⟨(fun e => by cases e), (fun a e => by cases e; rfl)⟩⟩

set_option maxRecDepth 20000 in
set_option maxHeartbeats 4000000 in
theorem spoilt_all (B n : Nat) (sv : Value) (D : List (Int × Int)) (w : World) (hn : n ≤ 17592186043904) (hBs : B ≤ w.heap.size) (hD : w.ownsRow B 28 2 sv n (flat D)) :
    Calls Try.prog 15 #[sv] w fun e w' => e = .returned (.tuple #[]) ∧ Below B w w' := by
  obtain ⟨i0, hi, hz0, hz1, hz2⟩ := info_parts Try.info28
  obtain ⟨so, sc, es⟩ := own_any hD
  subst es
  go_enter Try.func15, Try.ntmps15
  go_wp2
  go_loopw [2] (fun i wr => ∃ (k : Nat) (L : List (Int × Int)), k ≤ n ∧ i = .int .i64 k ∧ wr.ownsRow B 28 2 (.slice so n sc) n (flat L) ∧ Below B w wr) (fun i _ => n - (intOf i).toNat)
  case atStart => exact ⟨0, D, by omega, rfl, hD, Below.refl _ _⟩
  case round =>
    clear hD
    obtain ⟨k, L, hk, rfl, O, hb⟩ := hrel
    by_cases hlt : k < n
    · obtain ⟨g, cap, e, hcap, hg⟩ := own_shape2 O (by omega)
      cases e
      have OP : OwnP _ B g n sc L := O
      obtain ⟨c0, c1, f0, f1⟩ := OP.at k hlt
      go_wp2
      go_roundw
      case rel => exact ⟨k + 1, L.set k (-5, 5), by omega, by go_num, OP.set k hlt (-5) 5, (hb.setCell hg _).setCell hg _⟩
      case measure => simp [intOf]; omega
    · have hkn : k = n := by omega
      subst hkn
      go_wp2
      go_loopw [0, 3] (fun s i wr => ∃ (j : Nat) (xs : List Value), j ≤ 20 ∧ i = .int .i64 j ∧ wr.ownsRow B 28 2 s (k + j) xs ∧ Below B w wr) (fun _ i _ => 20 - (intOf i).toNat)
      case atStart => exact ⟨0, _, by omega, rfl, O, hb⟩
      case round =>
        clear O hb
        obtain ⟨j, xs, hj, rfl, hown, hb⟩ := hrel
        by_cases hlt2 : j < 20
        · have hsz := hb.size
          go_wp2_with (at_builtin; refine wpList_append_own _ rfl (.tmp 18) (.tmp 20) 22 rfl B 28 i0 (.agg #[.int .i32 0, .int .i32 0]) 2 8 Try.underlying22 hi hz0 hz1 hz2 rfl (by decide) _ (k + j) _ rfl (hown.alloc _) ⟨wr.heap.size, 0, none⟩ 1 1 [.int .i32 6, .int .i32 0] rfl rfl (one_cells _ _ _) (fun u hu => by simp at hu; rcases hu with rfl | rfl <;> rfl) (by unfold maxLen; omega) (by omega) (by simp; omega) ?_)
          intro sv w1 hown1 hgrow _
          have hb1 : Below B w w1 := (hb.alloc (by omega) _).grown hgrow (by simp; omega) (fun j hj => (hown.lt j hj).1)
          clear hgrow hown hb
          go_wp2
          go_roundw
          case rel => exact ⟨j + 1, _, by omega, by go_num, hown1, hb1⟩
          case measure => simp [intOf]; omega
        · go_wp2
          go_end0
          exact ⟨rfl, hb⟩

theorem hull_in {l : List (Int × Int)} (h : ∀ p ∈ l, in2 p) : ∀ p ∈ hullL (srt l), in2 p := fun p hp => h p ((srt_mem l p).mp (hull_sub (srt_asc l) p hp))
theorem hull_fix (l : List (Int × Int)) : hullL (srt (hullL (srt l))) = hullL (srt l) := hull_again (srt_asc l) (srt_asc _) (fun p => srt_mem _ p)

set_option maxRecDepth 20000 in
set_option maxHeartbeats 8000000 in
theorem exact_walk (vo : Option Addr) (cv : Nat) (l : List (Int × Int)) (w : World) (hl : l.length ≤ 17592186043904) (hn : vo = none → l.length = 0 ∧ cv = 0) (h32 : ∀ p ∈ l, in2 p) (hP : Pts w vo l) :
    Calls Try.prog 3 #[.slice vo l.length cv] w fun e w' => e = .returned (.bool true) ∧ Below w.heap.size w w' := by
  by_cases h80 : 80 < l.length
  · go_enter Try.func3, Try.ntmps3
    go_wp2
    go_ret
    exact ⟨rfl, Below.refl _ _⟩
  have h80' : l.length ≤ 80 := by omega
  have L1 := hid0 (lent_any vo cv l w (by omega) hn hP)
  have HP := hid0 hP
  have H32 := hid0 h32
  have HI := hid0 (hull_in h32)
  have HF := hid0 (hull_fix l)
  have HL : (hullL (srt l)).length ≤ 80 := Nat.le_trans (hull_len (srt_asc l)) (Nat.le_trans (srt_len l) h80')
  obtain ⟨H, hH⟩ : ∃ H, hullL (srt l) = H := ⟨_, rfl⟩
  have HH := hid0 hH
  rw [hH] at HI HF HL
  clear hH hn hP h32 h80 hl
  go_enter Try.func3, Try.ntmps3
  go_wp2_with fail
  refine L1.out.mono ?_
  rintro e w1 ⟨g1, cap1, rfl, O1, hb1⟩
  have P1 : Hid (Pts w1 (some ⟨g1, 0, none⟩) (l ++ marks 20)) := Pts.of_own O1
  obtain ⟨_, _, hc1, hm1, _⟩ := OwnP.shape O1
  have hc1' : l.length + 20 ≤ cap1 := by rw [List.length_append, marks_len] at hc1; exact hc1
  have PV1 : Hid (Pts w1 vo l) := HP.out.mono hb1
  have L2 := hid0 (rhull_any vo cv l w1 (by omega) H32.out PV1.out)
  rw [HH.out] at L2
  clear L1 HP O1 hc1
  go_wp2_with fail
  refine L2.out.mono ?_
  rintro e w2 ⟨sv, rfl, O2, hb2⟩
  obtain ⟨ro, rc, rfl, PR, -, hrn, hrs⟩ := own_all O2
  have P2 : Hid (Pts w2 (some ⟨g1, 0, none⟩) (l ++ marks 20)) := P1.out.mono hb2
  have PV2 : Hid (Pts w2 vo l) := PV1.out.mono hb2
  have PR2 : Hid (Pts w2 ro H) := PR
  have hW : Below w.heap.size w w2 := hb1.trans (hb2.mono hb1.size)
  -- what every later world says
  have HULL : Hid (∀ W, Below w2.heap.size w2 W → Calls Try.prog 11 #[.slice (some ⟨g1, 0, none⟩) l.length cap1] W fun e w' => ∃ so c, e = .returned (.slice so H.length c) ∧ w'.ownsRow w2.heap.size 28 2 (.slice so H.length c) H.length (flat H) ∧ Below w2.heap.size W w') := fun W hB => by
    refine (hull_any (some ⟨g1, 0, none⟩) cap1 l W (by omega) (fun h => by cases h) (fun a h => by cases h; rfl) H32.out (P2.out.left.mono hB)).mono ?_
    rintro e w' ⟨sv, rfl, h1, h2⟩
    rw [HH.out] at h1
    obtain ⟨so, c, rfl⟩ := own_any h1
    exact ⟨so, c, rfl, own_base h1 hB.size, h2.mono hB.size⟩
  have SAME : Hid (∀ W so c, Below w2.heap.size w2 W → W.ownsRow w2.heap.size 28 2 (.slice so H.length c) H.length (flat H) → Calls Try.prog 12 #[.slice so H.length c, .slice ro H.length rc] W fun e w' => e = .returned (.bool true) ∧ Gr W w') := fun W so c hB hO => by
    obtain ⟨ro', rc', e, PR', -⟩ := own_pts hO
    cases e
    have h := same12_any so ro c rc H H W (by omega) PR' (PR2.out.mono hB)
    simpa using h
  have SAMEV : Hid (∀ W, Below w2.heap.size w2 W → Calls Try.prog 12 #[.slice vo l.length cv, .slice ro H.length rc] W fun e w' => e = .returned (.bool (decide (l = H))) ∧ Gr W w') := fun W hB =>
    same12_any vo ro cv rc l H W (by omega) (PV2.out.mono hB) (PR2.out.mono hB)
  have CONV : Hid (∀ W, Below w2.heap.size w2 W → Calls Try.prog 13 #[.slice (some ⟨g1, 0, none⟩) l.length cap1] W fun e w' => e = .returned (.bool (decide (l = H))) ∧ Below W.heap.size W w') := fun W hB => by
    have := convex_any (some ⟨g1, 0, none⟩) cap1 l W (by omega) (fun h => by cases h) (fun a h => by cases h; rfl) H32.out (P2.out.left.mono hB)
    rw [HH.out] at this
    exact this
  have CONW : Hid (∀ W, Below w2.heap.size w2 W → Calls Try.prog 13 #[.slice ro H.length rc] W fun e w' => e = .returned (.bool true) ∧ Below W.heap.size W w') := fun W hB => by
    have := convex_any ro rc H W (by omega) hrn hrs HI.out (PR2.out.mono hB)
    rw [HF.out, decide_eq_true rfl] at this
    exact this
  have LEFT : Hid (∀ W, Below w2.heap.size w2 W → Calls Try.prog 14 #[.slice (some ⟨g1, 0, none⟩) l.length cap1, .slice vo l.length cv] W fun e w' => e = .returned (.bool true) ∧ Gr W w') := fun W hB =>
    left_true g1 cap1 vo cv l W (by omega) hc1' hm1 (P2.out.mono hB) (PV2.out.mono hB)
  have SPOIL : Hid (∀ W so c, w2.heap.size ≤ W.heap.size → W.ownsRow w2.heap.size 28 2 (.slice so H.length c) H.length (flat H) → Calls Try.prog 15 #[.slice so H.length c] W fun e w' => e = .returned (.tuple #[]) ∧ Below w2.heap.size W w') := fun W so c hB hO =>
    spoilt_all w2.heap.size H.length _ H W (by omega) hB hO
  clear P1 PV1 L2 O2 PR hb2 hb1 P2 PV2 PR2 hm1 hc1' hrn hrs HI HF HH H32
  have hB := Below.refl w2.heap.size w2
  generalize decide (l = H) = dd at *
  go_wp2_with fail
  refine (HULL.out _ hB).mono ?_
  rintro e w3 ⟨so3, c3, rfl, O3, hb3⟩
  replace hB := hB.trans hb3
  clear hb3
  go_wp2_with fail
  refine (SAME.out _ _ _ hB O3).mono ?_
  rintro e w4 ⟨rfl, gr⟩
  have O4 := own2_gr O3 gr
  replace hB := hB.trans (gr.below.mono hB.size)
  clear gr O3
  go_wp2_with fail
  refine (CONV.out _ hB).mono ?_
  rintro e w5 ⟨rfl, hb5⟩
  have O5 := own_below O4 hb5
  replace hB := hB.trans (hb5.mono hB.size)
  clear hb5 O4
  go_wp2_with fail
  refine (SAMEV.out _ hB).mono ?_
  rintro e w6 ⟨rfl, gr⟩
  have O6 := own2_gr O5 gr
  replace hB := hB.trans (gr.below.mono hB.size)
  clear gr O5
  cases dd
  all_goals
    go_wp2_with fail
    refine (LEFT.out _ hB).mono ?_
    rintro e w7 ⟨rfl, gr⟩
    have O7 := own2_gr O6 gr
    replace hB := hB.trans (gr.below.mono hB.size)
    clear gr O6
    go_wp2_with fail
    refine (SPOIL.out _ _ _ hB.size O7).mono ?_
    rintro e w8 ⟨rfl, hb8⟩
    replace hB := hB.trans hb8
    clear hb8 O7
    go_wp2_with fail
    refine (HULL.out _ hB).mono ?_
    rintro e w9 ⟨so9, c9, rfl, O9, hb9⟩
    replace hB := hB.trans hb9
    clear hb9
    go_wp2_with fail
    refine (SAME.out _ _ _ hB O9).mono ?_
    rintro e w10 ⟨rfl, gr⟩
    replace hB := hB.trans (gr.below.mono hB.size)
    clear gr O9
    go_wp2_with fail
    refine (LEFT.out _ hB).mono ?_
    rintro e w11 ⟨rfl, gr⟩
    replace hB := hB.trans (gr.below.mono hB.size)
    clear gr
    go_wp2_with fail
    refine (CONW.out _ hB).mono ?_
    rintro e w12 ⟨rfl, hb12⟩
    replace hB := hB.trans (hb12.mono hB.size)
    go_wp2
    go_ret
    exact ⟨rfl, hW.trans (hB.mono hW.size)⟩
end
end Go.Proofs.Ytljdnahomhbenaa
