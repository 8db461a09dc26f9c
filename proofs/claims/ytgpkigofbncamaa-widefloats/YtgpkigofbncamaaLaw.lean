/- Contracts of what the laws of layer 1 share: a number by the reference, and whether it is the program's. -/
import Derived.Test.YtgpkigofbncamaaRound
import Derived.Test.YtgpkigofbncamaaWord
namespace Go.Proofs.Ytgpkigofbncamaa
open Go.RowKit Go.Sort

set_option maxHeartbeats 1000000 in
theorem num_any (h l : Int) (w : World) (h0 : -9223372036854775808 ≤ h) (h1 : h ≤ 9223372036854775807) (h2 : 0 ≤ l) (h3 : l ≤ 18446744073709551615) :
    Calls Try.prog 9 #[.agg #[.int .i64 h, .int .u64 l]] w fun e w' => ∃ z, e = .returned z ∧ Nm w' z (h * 18446744073709551616 + l) ∧ Below w.heap.size w w' := by
  have k0 : Bk ((w.alloc (.cells #[.int .i64 h, .int .u64 l] 24)).alloc (.cells #[.bool false, .slice none 0 0] 29)) (w.heap.size + 1) (.bool false) (.slice none 0 0) := Bk.new' w _ _ _
  have hb0 := below2 w (.cells #[.int .i64 h, .int .u64 l] 24) (.cells #[.bool false, .slice none 0 0] 29)
  go_enter Try.func9, Try.ntmps9
  go_wp2_with fail
  refine (pair_num h l _ h0 h1 h2 h3).mono ?_
  rintro e w1 ⟨z, rfl, hz, hb1⟩
  obtain ⟨r, o, ln, c, rfl, hz'⟩ := hz.shape
  replace hb0 := hb0.trans (hb1.mono hb0.size)
  replace k0 := k0.mono hb1 k0.lt
  clear hz hb1
  have d0 := k0.c0
  have d1 := k0.c1
  have d2 := k0.f0
  have d3 := k0.f1
  go_wp2
  refine bodyPost_ret (v := .agg #[.bool r, .slice o ln c]) (by simp [results, Try.results9, go_sem, d0, d1]) rfl ⟨_, rfl, ?_, ?_⟩
  · exact (hz'.out.setBk k0 _).setBk (k0.set0 _) _
  · exact (hb0.setCell (by simp only []; omega) _).setCell (by simp only []; omega) _

set_option maxHeartbeats 1000000 in
theorem is_any (y : Value) (n : Int) (w : World) (hy : Nm w y n) (h0 : -p2 6000 < n) (h1 : n < p2 6000) :
    Calls Try.prog 10 #[.agg #[.int .i64 (hiI n), .int .u64 (loI n)], y] w fun e w' => e = .returned (.bool true) ∧ Below w.heap.size w w' := by
  obtain ⟨r, o, ln, c, rfl, hy'⟩ := hy.shape
  have hb0 := below2 w (.cells #[.int .i64 (hiI n), .int .u64 (loI n)] 25) (.cells #[.bool r, .slice o ln c] 29)
  have HY : Hid (Nm ((w.alloc (.cells #[.int .i64 (hiI n), .int .u64 (loI n)] 25)).alloc (.cells #[.bool r, .slice o ln c] 29)) (.agg #[.bool r, .slice o ln c]) n) := hy'.out.mono hb0
  clear hy hy'
  go_enter Try.func10, Try.ntmps10
  go_wp2_with fail
  refine (round_num _ n _ HY.out h0 h1).mono ?_
  rintro e w1 ⟨rfl, hb1⟩
  have q0 : w1.cell? ⟨w.heap.size, 0, none⟩ = some (.int .i64 (hiI n)) := below_cell (by go_simp) hb1
  have q1 : w1.cell? ⟨w.heap.size, 1, none⟩ = some (.int .u64 (loI n)) := below_cell (by go_simp) hb1
  replace hb0 := hb0.trans (hb1.mono hb0.size)
  clear hb1 HY
  go_wp2
  go_ret
  exact ⟨rfl, hb0⟩

theorem p63 : p2 63 = 9223372036854775808 := by decide
set_option maxHeartbeats 2000000 in
theorem int64_num (y : Value) (m : Int) (w : World) (hy : Nm w y m) (hm : inI m) :
    Calls Try.prog 18 #[y] w fun e w' => e = .returned (.tuple #[.int .i64 (if -9223372036854775808 ≤ m ∧ m ≤ 9223372036854775807 then m else 0), .bool (decide (-9223372036854775808 ≤ m ∧ m ≤ 9223372036854775807))]) ∧ Below w.heap.size w w' := by
  obtain ⟨s, ao, la, ca, rfl, hx'⟩ := hy.shape
  have k0 := Bk.new w (.bool s) (.slice ao la ca)
  have hb0 : Below w.heap.size w (w.alloc (.cells #[.bool s, .slice ao la ca] 29)) := ((Gr.refl _).alloc _).below
  have hX : Hid (Nm (w.alloc (.cells #[.bool s, .slice ao la ca] 29)) (.agg #[.bool s, .slice ao la ca]) m) := hx'.out.mono hb0
  have h6 := big_6000
  have b1 : -p2 6000 < m := by unfold inI at hm; omega
  have b2 : m < p2 6000 := by unfold inI at hm; omega
  clear hy hx' h6
  have tri : (m < -9223372036854775808 ∨ 9223372036854775807 < m) ∨ (-9223372036854775808 ≤ m ∧ m ≤ 9223372036854775807) := by omega
  rcases tri with hr | hr
  · have E1 : ¬ (-9223372036854775808 ≤ m ∧ m ≤ 9223372036854775807) := by omega
    rw [if_neg E1, decide_eq_false E1]
    clear E1
    rcases hr with hr | hr
    · have hc1 : decide (cmpI m (-p2 63) < 0) = true := by rw [p63]; unfold cmpI; rw [if_pos (by omega)]; decide
      clear hr hm
      go_enter Try.func18, Try.ntmps18
      go_wp2
      generalize w.alloc (.cells #[.bool s, .slice ao la ca] 29) = W at *
      have c0 := k0.c0
      have c1 := k0.c1
      go_region_with (first
        | (go_at_call 53; refine (power_num 63 _ (by omega)).mono ?_; rintro e w2 ⟨z, rfl, hz2, hb2⟩; replace hb2 := drewB hb2; obtain ⟨r2, o2, l2, c2, rfl, hz2'⟩ := hz2.shape; clear hz2; have k2 := k0.mono hb2 k0.lt; have d0 := k2.c0; have d1 := k2.c1)
        | (go_at_call 16; refine (neg_num _ (p2 63) _ hz2'.out).mono ?_; rintro e w3 ⟨z, rfl, hz3, hb3⟩; obtain ⟨r3, o3, l3, c3, rfl, hz3'⟩ := hz3.shape; clear hz3; have k3 := k2.mono hb3 k2.lt; have e0 := k3.c0; have e1 := k3.c1; have hb4 : Below W.heap.size W w3 := hb2.trans (hb3.mono hb2.size))
        | (go_at_call 22; refine (cmp_num _ _ m (-p2 63) _ (hX.out.mono hb4) hz3'.out).mono ?_; rintro e w4 ⟨rfl, hg4⟩; have hbW : Below W.heap.size W w4 := hb4.trans (hg4.below.mono hb4.size)))
      all_goals
        clear hX c0 c1
        change Exit.then _ _ Exit.normal { tmps := #[.agg #[.bool s, .slice ao la ca], .pointer (some ⟨w.heap.size, 0, none⟩), .int .i64 0, .bool false, undef, undef, .agg #[.bool s, .slice ao la ca], .agg #[.bool r2, .slice o2 l2 c2], .agg #[.bool r3, .slice o3 l3 c3], .int .i64 (cmpI m (-p2 63)), .bool true, .bool true, undef, undef, undef, undef, .bool true, undef, undef, undef, undef, undef, undef, undef], defers := [] } w4
        go_wp2
        go_ret2
        exact ⟨rfl, hb0.trans (hbW.mono hb0.size)⟩
    · have hc1 : decide (cmpI m (-p2 63) < 0) = false := by rw [p63]; unfold cmpI; simp; omega
      have hc2 : 0 ≤ cmpI m (p2 63) := by rw [p63]; unfold cmpI; rw [if_neg (by omega)]; split <;> omega
      clear hr hm
      go_enter Try.func18, Try.ntmps18
      go_wp2
      generalize w.alloc (.cells #[.bool s, .slice ao la ca] 29) = W at *
      have c0 := k0.c0
      have c1 := k0.c1
      have hS0 : Hid (S2 ⟨w.heap.size, 0, none⟩ ⟨w.heap.size, 1, none⟩ (.bool s) (.slice ao la ca) W W.drew) := ⟨c0, c1, (Below.refl _ _).drew⟩
      go_region_held3 (S2 ⟨w.heap.size, 0, none⟩ ⟨w.heap.size, 1, none⟩ (.bool s) (.slice ao la ca) W)
        (first | with_reducible exact hS0.out | exact S2.call (by assumption) (by assumption))
        (first
          | (go_at_call 53; refine (power_num 63 _ (by omega)).mono ?_; rintro e w2 ⟨z, rfl, hz2, hb2⟩; obtain ⟨r2, o2, l2, c2, rfl, hz2'⟩ := hz2.shape; clear hz2)
          | (go_at_call 16; refine (neg_num _ (p2 63) _ hz2'.out).mono ?_; rintro e w3 ⟨z, rfl, hz3, hb3⟩; obtain ⟨r3, o3, l3, c3, rfl, hz3'⟩ := hz3.shape; clear hz3)
          | (go_at_call_of 22 (Value.slice o2 l2 c2); refine (cmp_num _ _ m (p2 63) _ (hX.out.mono (by assumption : S2 ⟨w.heap.size, 0, none⟩ ⟨w.heap.size, 1, none⟩ (.bool s) (.slice ao la ca) W _).2.2) hz2'.out).mono ?_; rintro e w4 ⟨rfl, hg4⟩; have hb4 := hg4.below)
          | (go_at_call_of 22 (Value.slice o3 l3 c3); refine (cmp_num _ _ m (-p2 63) _ (hX.out.mono (by assumption : S2 ⟨w.heap.size, 0, none⟩ ⟨w.heap.size, 1, none⟩ (.bool s) (.slice ao la ca) W _).2.2) hz3'.out).mono ?_; rintro e w4 ⟨rfl, hg4⟩; have hb4 := hg4.below))
      have hbW : Below W.heap.size W _ := (by assumption : S2 ⟨w.heap.size, 0, none⟩ ⟨w.heap.size, 1, none⟩ (.bool s) (.slice ao la ca) W w4).2.2
      go_wp2
      go_ret2
      exact ⟨rfl, hb0.trans (hbW.mono hb0.size)⟩
  · have hc1 : decide (cmpI m (-p2 63) < 0) = false := by rw [p63]; unfold cmpI; simp; omega
    have hc2 : decide (0 ≤ cmpI m (p2 63)) = false := by rw [p63]; unfold cmpI; rw [if_pos (by omega)]; decide
    have E : Hid (wrap64 (loI m) = m) := low_same hr
    rw [if_pos hr, decide_eq_true hr]
    clear hr hm
    go_enter Try.func18, Try.ntmps18
    go_wp2
    generalize w.alloc (.cells #[.bool s, .slice ao la ca] 29) = W at *
    have c0 := k0.c0
    have c1 := k0.c1
    have hS0 : Hid (S2 ⟨w.heap.size, 0, none⟩ ⟨w.heap.size, 1, none⟩ (.bool s) (.slice ao la ca) W W.drew) := ⟨c0, c1, (Below.refl _ _).drew⟩
    go_region_held3 (S2 ⟨w.heap.size, 0, none⟩ ⟨w.heap.size, 1, none⟩ (.bool s) (.slice ao la ca) W)
      (first | with_reducible exact hS0.out | exact S2.call (by assumption) (by assumption))
      (first
        | (go_at_call 53; refine (power_num 63 _ (by omega)).mono ?_; rintro e w2 ⟨z, rfl, hz2, hb2⟩; obtain ⟨r2, o2, l2, c2, rfl, hz2'⟩ := hz2.shape; clear hz2)
        | (go_at_call 16; refine (neg_num _ (p2 63) _ hz2'.out).mono ?_; rintro e w3 ⟨z, rfl, hz3, hb3⟩; obtain ⟨r3, o3, l3, c3, rfl, hz3'⟩ := hz3.shape; clear hz3)
        | (go_at_call_of 22 (Value.slice o2 l2 c2); refine (cmp_num _ _ m (p2 63) _ (hX.out.mono (by assumption : S2 ⟨w.heap.size, 0, none⟩ ⟨w.heap.size, 1, none⟩ (.bool s) (.slice ao la ca) W _).2.2) hz2'.out).mono ?_; rintro e w4 ⟨rfl, hg4⟩; have hb4 := hg4.below)
        | (go_at_call_of 22 (Value.slice o3 l3 c3); refine (cmp_num _ _ m (-p2 63) _ (hX.out.mono (by assumption : S2 ⟨w.heap.size, 0, none⟩ ⟨w.heap.size, 1, none⟩ (.bool s) (.slice ao la ca) W _).2.2) hz3'.out).mono ?_; rintro e w4 ⟨rfl, hg4⟩; have hb4 := hg4.below))
    have hbW : Below W.heap.size W _ := (by assumption : S2 ⟨w.heap.size, 0, none⟩ ⟨w.heap.size, 1, none⟩ (.bool s) (.slice ao la ca) W w4).2.2
    have hk := k0.mono hbW k0.lt
    have d0 := hk.c0
    have d1 := hk.c1
    have hXw : Hid (Nm _ (.agg #[.bool s, .slice ao la ca]) m) := hX.out.mono hbW
    clear hS0 c0 c1
    go_wp2_with (go_at_call 46; refine (round_num _ m _ hXw.out b1 b2).mono ?_; rintro e w5 ⟨rfl, hb5⟩)
    go_ret2
    exact ⟨by rw [E.out]; rfl, (hb0.trans (hbW.mono hb0.size)).trans (hb5.mono (Nat.le_trans hb0.size hbW.size))⟩
end Go.Proofs.Ytgpkigofbncamaa
