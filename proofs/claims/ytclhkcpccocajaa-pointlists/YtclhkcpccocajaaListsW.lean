/- The law PointLists, walked: for any list of points that memory holds the call returns true, and the memory that was there is as it was. -/
import Derived.Test.YtclhkcpccocajaaLst5
namespace Go.Proofs.Ytclhkcpccocajaa
open Go.RowKit Go.Sort

theorem bounds_zero (g cap : Nat) (w : World) : Calls Try.prog 40 #[.slice (some ⟨g, 0, none⟩) 0 cap] w fun e w' => e = .returned (.tuple #[bx 0 0 0 0, .bool false]) ∧ Gr w w' := by
  have t0 := B4.new w (.int .i32 0) (.int .i32 0) (.int .i32 0) (.int .i32 0)
  go_enter Try.func40, Try.ntmps40
  go_wp2
  refine bodyPost_ret (v := .tuple #[bx 0 0 0 0, .bool false]) (by simp [results, Try.results40, go_sem]) rfl ⟨rfl, ?_⟩
  repeat (first | exact (Gr.refl _).alloc _ | refine Gr.setCell ?_ (by simp) _)
theorem bounds_all (g cap : Nat) (l : List (Int × Int)) (w : World) (hl : l.length ≤ 281474976710656) (hcap : l.length ≤ cap) (hP : Pts w (some ⟨g, 0, none⟩) l) :
    Calls Try.prog 40 #[.slice (some ⟨g, 0, none⟩) l.length cap] w fun e w' => e = .returned (.tuple #[bxv (bndL l), .bool (decide (0 < l.length))]) ∧ Gr w w' := by
  by_cases h : 0 < l.length
  · rw [decide_eq_true h]
    exact bounds_any g 0 cap l w h hl hcap hP
  · have e : l = [] := List.eq_nil_of_length_eq_zero (by omega)
    subst e
    exact bounds_zero g cap w
theorem own_pts {w : World} {base n : Nat} {sv : Value} {R : List (Int × Int)} (h : w.ownsRow base 23 2 sv n (flat R)) : ∃ ro rc, sv = .slice ro n rc ∧ Pts w ro R ∧ R.length = n := by
  have hl : R.length = n := by have := h.1; rw [flat_len] at this; omega
  rcases h.2 with ⟨rfl, hn⟩ | ⟨g, cap, cur, rfl, _⟩
  · refine ⟨none, 0, by rw [hn], fun i hi => ?_, hl⟩
    omega
  · exact ⟨_, cap, rfl, Pts.of_own (base := base) (cap := cap) (by rw [hl]; exact h), hl⟩

set_option maxRecDepth 20000 in
set_option maxHeartbeats 8000000 in
theorem lists_walk (vo : Option Addr) (cv : Nat) (l : List (Int × Int)) (w : World) (hl : l.length ≤ 17592186043904) (hn : vo = none → l.length = 0 ∧ cv = 0) (hP : Pts w vo l) :
    Calls Try.prog 5 #[.slice vo l.length cv] w fun e w' => e = .returned (.bool true) ∧ Below w.heap.size w w' := by
  have L1 : Hid (Calls Try.prog 34 #[.slice vo l.length cv] w fun e w' => ∃ g cap, e = .returned (.slice (some ⟨g, 0, none⟩) l.length cap) ∧ w'.ownsRow w.heap.size 23 2 (.slice (some ⟨g, 0, none⟩) (l ++ marks 20).length cap) (l ++ marks 20).length (flat (l ++ marks 20)) ∧ Below w.heap.size w w') := lent_any vo cv l w (by omega) hn hP
  have HP : Hid (Pts w vo l) := hP
  clear hn hP
  go_enter Try.func5, Try.ntmps5
  go_wp2_with fail
  refine L1.out.mono ?_
  rintro e w1 ⟨g1, cap1, rfl, O1, hb1⟩
  have P1 : Hid (Pts w1 (some ⟨g1, 0, none⟩) (l ++ marks 20)) := Pts.of_own O1
  obtain ⟨_, _, hc1, hm1, _⟩ := OwnP.shape O1
  have hc1' : l.length + 20 ≤ cap1 := by rw [List.length_append, marks_len] at hc1; exact hc1
  have PV1 : Hid (Pts w1 vo l) := HP.out.mono hb1
  have L2 : Hid (Calls Try.prog 35 #[.slice vo l.length cv] w1 fun e w' => ∃ sv R, e = .returned sv ∧ w'.ownsRow w1.heap.size 23 2 sv l.length (flat R) ∧ R.Perm l ∧ asc R ∧ Below w1.heap.size w1 w') := rsorted_any vo cv l w1 (by omega) PV1.out
  clear L1 HP O1 hc1
  go_wp2_with fail
  refine L2.out.mono ?_
  rintro e w2 ⟨sv, R, rfl, O2, hp2, ha2, hb2⟩
  obtain ⟨ro, rc, rfl, PR, hRl⟩ := own_pts O2
  have P2 : Hid (Pts w2 (some ⟨g1, 0, none⟩) (l ++ marks 20)) := P1.out.mono hb2
  have PV2 : Hid (Pts w2 vo l) := PV1.out.mono hb2
  have PR2 : Hid (Pts w2 ro R) := PR
  have hW : Below w.heap.size w w2 := hb1.trans (hb2.mono hb1.size)
  -- what every later world says
  have SORT : Hid (∀ W, Below w2.heap.size w2 W → Calls Try.prog 36 #[.slice (some ⟨g1, 0, none⟩) l.length cap1] W fun e w' => ∃ g, e = .returned (.slice (some ⟨g, 0, none⟩) l.length l.length) ∧ w2.heap.size ≤ g ∧ w'.heap[g]? = some (.cells (flat R).toArray 23 (0, 0)) ∧ Below w2.heap.size W w') := fun W hB => by
    refine (psorted_any g1 0 cap1 l W (by omega) (P2.out.left.mono hB)).mono ?_
    rintro e w' ⟨g, D, rfl, h1, h2, h3, h4, h5⟩
    have e : D = R := asc_unique h4 ha2 (h3.trans hp2.symm)
    subst e
    exact ⟨g, rfl, Nat.le_trans hB.size h1, h2, h5.mono hB.size⟩
  have SAME : Hid (∀ W g, Below w2.heap.size w2 W → W.heap[g]? = some (.cells (flat R).toArray 23 (0, 0)) → Calls Try.prog 37 #[.slice (some ⟨g, 0, none⟩) l.length l.length, .slice ro l.length rc] W fun e w' => e = .returned (.bool true) ∧ Gr W w') := fun W g hB hg => by
    have O : OwnP W 0 g l.length l.length R := OwnP.of_heap hg hRl (Nat.zero_le _) (by unfold maxLen; omega)
    have h := same_true (some ⟨g, 0, none⟩) ro l.length rc R W (by omega) (Pts.of_own (base := 0) (cap := l.length) (by rw [hRl]; exact O)) (PR2.out.mono hB)
    rw [hRl] at h
    exact h
  have LEFT : Hid (∀ W, Below w2.heap.size w2 W → Calls Try.prog 38 #[.slice (some ⟨g1, 0, none⟩) l.length cap1, .slice vo l.length cv] W fun e w' => e = .returned (.bool true) ∧ Gr W w') := fun W hB =>
    left_true g1 cap1 vo cv l W (by omega) hc1' hm1 (P2.out.mono hB) (PV2.out.mono hB)
  have BND : Hid (∀ W, Below w2.heap.size w2 W → Calls Try.prog 40 #[.slice (some ⟨g1, 0, none⟩) l.length cap1] W fun e w' => e = .returned (.tuple #[bxv (bndL l), .bool (decide (0 < l.length))]) ∧ Gr W w') := fun W hB =>
    bounds_all g1 cap1 l W (by omega) (by omega) (P2.out.left.mono hB)
  have RBND : Hid (∀ W, Below w2.heap.size w2 W → Calls Try.prog 41 #[.slice vo l.length cv] W fun e w' => e = .returned (.tuple #[bxv (bndL l), .bool (decide (0 < l.length))]) ∧ Gr W w') := fun W hB =>
    rbounds_any vo cv l W (by omega) (PV2.out.mono hB)
  have SPOIL : Hid (∀ W g, w2.heap.size ≤ W.heap.size → w2.heap.size ≤ g → W.heap[g]? = some (.cells (flat R).toArray 23 (0, 0)) → Calls Try.prog 39 #[.slice (some ⟨g, 0, none⟩) l.length l.length] W fun e w' => e = .returned (.tuple #[]) ∧ Below w2.heap.size W w') := fun W g hB h1 hg =>
    spoilt_any w2.heap.size g l.length R W (by omega) hB (OwnP.of_heap hg hRl h1 (by unfold maxLen; omega))
  clear P1 PV1 L2 hp2 ha2 O2 PR hb2 hb1 P2 PV2 PR2 hRl hm1 hc1'
  generalize bndL l = Q at *
  generalize decide (0 < l.length) = ok at *
  have hB := Below.refl w2.heap.size w2
  go_wp2_with fail
  refine (SORT.out _ hB).mono ?_
  rintro e w3 ⟨g3, rfl, hg3, hc3, hb3⟩
  replace hB := hB.trans hb3
  go_wp2_with fail
  refine (SAME.out _ _ hB hc3).mono ?_
  rintro e w4 ⟨rfl, gr⟩
  have hc4 := gr.below.block g3 (lt_of_block hc3) |>.trans hc3
  replace hB := hB.trans (gr.below.mono hB.size)
  clear gr hb3 hc3
  go_wp2_with fail
  refine (LEFT.out _ hB).mono ?_
  rintro e w5 ⟨rfl, gr⟩
  have hc5 := gr.below.block g3 (lt_of_block hc4) |>.trans hc4
  replace hB := hB.trans (gr.below.mono hB.size)
  clear gr hc4
  go_wp2_with fail
  refine (SPOIL.out _ _ hB.size hg3 hc5).mono ?_
  rintro e w6 ⟨rfl, hb6⟩
  replace hB := hB.trans hb6
  clear hb6 hc5
  go_wp2_with fail
  refine (BND.out _ hB).mono ?_
  rintro e w7 ⟨rfl, gr⟩
  replace hB := hB.trans (gr.below.mono hB.size)
  clear gr
  have KA := B4.new w7 (.int .i32 Q.1) (.int .i32 Q.2.1) (.int .i32 Q.2.2.1) (.int .i32 Q.2.2.2)
  go_upto_region 8 with fail
  have hsz7 : w2.heap.size ≤ w7.heap.size := hB.size
  replace hB := hB.alloc hsz7 (.cells #[.int .i32 Q.1, .int .i32 Q.2.1, .int .i32 Q.2.2.1, .int .i32 Q.2.2.2] 35)
  generalize hw8 : w7.alloc (.cells #[.int .i32 Q.1, .int .i32 Q.2.1, .int .i32 Q.2.2.1, .int .i32 Q.2.2.2] 35) = w8 at *
  clear hw8
  go_wp2_with fail
  refine (RBND.out _ hB).mono ?_
  rintro e w9 ⟨rfl, gr⟩
  replace hB := hB.trans (gr.below.mono hB.size)
  replace KA := KA.gr gr
  clear gr
  have KB := B4.new w9 (.int .i32 Q.1) (.int .i32 Q.2.1) (.int .i32 Q.2.2.1) (.int .i32 Q.2.2.2)
  replace KA := KA.gr ((Gr.refl _).alloc (.cells #[.int .i32 Q.1, .int .i32 Q.2.1, .int .i32 Q.2.2.1, .int .i32 Q.2.2.2] 35))
  go_upto_region 9 with fail
  replace hB := hB.alloc hB.size (.cells #[.int .i32 Q.1, .int .i32 Q.2.1, .int .i32 Q.2.2.1, .int .i32 Q.2.2.2] 35)
  generalize w9.alloc (.cells #[.int .i32 Q.1, .int .i32 Q.2.1, .int .i32 Q.2.2.1, .int .i32 Q.2.2.2] 35) = w10 at *
  have a0 := KA.c0
  have a1 := KA.c1
  have a2 := KA.c2
  have a3 := KA.c3
  have b0 := KB.c0
  have b1 := KB.c1
  have b2 := KB.c2
  have b3 := KB.c3
  go_wp2_with fail
  refine (LEFT.out _ hB).mono ?_
  rintro e w11 ⟨rfl, gr⟩
  replace hB := hB.trans (gr.below.mono hB.size)
  clear gr
  go_wp2_with fail
  refine (SORT.out _ hB).mono ?_
  rintro e w12 ⟨g4, rfl, hg4, hc12, hb12⟩
  replace hB := hB.trans hb12
  go_wp2_with fail
  refine (SAME.out _ _ hB hc12).mono ?_
  rintro e w13 ⟨rfl, gr⟩
  replace hB := hB.trans (gr.below.mono hB.size)
  go_wp2
  go_ret
  exact ⟨rfl, hW.trans (hB.mono hW.size)⟩
end Go.Proofs.Ytclhkcpccocajaa
