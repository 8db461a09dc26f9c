/- cell's Cover and Count, whole. -/
import Derived.Test.YtmoddfikhipagaaCv
set_option linter.unusedSimpArgs false
set_option linter.unusedVariables false
namespace Go.Proofs.Ytmoddfikhipagaa
open Go.RowKit Go.Sort Go.Shelf
attribute [local go_sem] Oper.semAt_some wide_fn
attribute [local simp] wide_fn

theorem rt_32 {a b c d : Int} (h : rtB a b c d = true) : in32 a ∧ in32 b ∧ in32 c ∧ in32 d ∧ a ≤ c ∧ b ≤ d := by
  obtain ⟨h1, h2, h3, h4⟩ := rtB_iff.1 h
  have := plB_iff.1 h1
  have := plB_iff.1 h2
  unfold in32
  omega

set_option maxRecDepth 100000 in
set_option maxHeartbeats 4000000 in
/-- Where the size is none or the box is not right nothing is told. -/
theorem cover0_in (n : Nat) (hn : 12 ≤ n) (l bs bb : Nat) (ia ib ic id s : Int) (J : (Nat → Prop) → List C2 → World → Prop) (ps : Nat → Prop) (W : World)
    (ks : Bk W bs 2 [.int .i64 s]) (kb : Bk W bb 25 [.int .i32 ia, .int .i32 ib, .int .i32 ic, .int .i32 id])
    (hJ : Con W.heap.size J) (hok : (szB s && rtB ia ib ic id) = false) (h0 : J ps [] W) :
    CallsIn Fence.wide n Try.prog 36 #[.func (.yield l) #[] #[], .pointer (some ⟨bs, 0, none⟩), .pointer (some ⟨bb, 0, none⟩)] W fun e W' => (∃ v, e = .returned v) ∧ J ps [] W' := by
  have S1 := hid0 (isSize_any s)
  have S2 := hid0 (isRight_any ia ib ic id)
  generalize szB s = b1 at *
  generalize rtB ia ib ic id = b2 at *
  have h1n : 1 ≤ n := by omega
  have g4 : Gr W (W.alloc (.cells #[.func (.yield l) #[] #[]] 62)) := (Gr.refl _).alloc _
  have s0 := (ks.gr g4).one
  obtain ⟨p0, p1, p2, p3⟩ := (kb.gr g4).four
  refine callsIn_of_wp_marks Try.func36 rfl trivial ?_ rfl
  simp only [Try.ntmps36, List.size_toArray, List.length_cons, List.length_nil, Nat.reduceAdd, Nat.reduceSub, Array.replicate_succ, Array.replicate_zero, List.push_toArray, List.append_toArray, List.nil_append, List.cons_append]
  gi_upto_region 1 with fail
  generalize W.alloc (.cells #[.func (.yield l) #[] #[]] 62) = W1 at *
  cases b1
  · gi_wp2_with (refine (callsIn_wide.2 (S1.out _)).mono ?_; rintro e w1 ⟨rfl, rfl⟩)
    refine ⟨_, results_none rfl _ _ _, ⟨_, rfl⟩, hJ.gr h0 g4⟩
  · cases b2
    · gi_wp2_with (first
        | (refine (callsIn_wide.2 (S1.out _)).mono ?_; rintro e w1 ⟨rfl, rfl⟩; clear S1)
        | (refine (callsIn_wide.2 (S2.out _)).mono ?_; rintro e w2 ⟨rfl, g2⟩; clear S2))
      refine ⟨_, results_none rfl _ _ _, ⟨_, rfl⟩, hJ.gr h0 (g4.trans g2)⟩
    · cases hok

theorem cover_seq (n : Nat) (hn : 12 ≤ n) (bs bb : Nat) (a b c d s : Int) (p0 : Nat → Prop) (w : World)
    (ks : Bk w bs 2 [.int .i64 s]) (kb : Bk w bb 25 [.int .i32 a, .int .i32 b, .int .i32 c, .int .i32 d]) (hs : p0 bs) (hb : p0 bb) :
    SeqO n 36 #[.pointer (some ⟨bs, 0, none⟩), .pointer (some ⟨bb, 0, none⟩)] cEnc (covL a b c d s) p0 w := fun l J Jx ps W hk hp0 hpb _ hJ hJx hY h0 => by
  cases hok : (szB s && rtB a b c d) with
  | true =>
    have hok' := hok
    rw [Bool.and_eq_true] at hok'
    obtain ⟨hz, hr⟩ := hok'
    obtain ⟨ha, hb', hc, hd, hac, hbd⟩ := rt_32 hr
    obtain ⟨hs1, hs2⟩ := szB_iff.1 hz
    have S1 := isSize_any s
    rw [hz] at S1
    have S2 := isRight_any a b c d
    rw [hr] at S2
    have e1 : a / s ≤ c / s := Int.ediv_le_ediv (by omega) hac
    have e2 : b / s ≤ d / s := Int.ediv_le_ediv (by omega) hbd
    have ea := ediv_32 hs1 ha
    have eb := ediv_32 hs1 hb'
    have ec := ediv_32 hs1 hc
    have ed := ediv_32 hs1 hd
    have eL : covL a b c d s = (runL (a / s, b / s) (0, 1) (kxOf b d s + 1)).flatMap (rowC (kxOf a c s)) := by unfold covL; rw [hok]; rfl
    refine cover1_in n hn l bs bb a b c d s (kxOf a c s) (kxOf b d s) J Jx ps W (covL a b c d s) (ks.same (hk _ hs)) (kb.same (hk _ hb)) hpb hJ hJx (hid0 S1) (hid0 S2) (hid0 (holder_any a b s ha hb' hs1)) (hid0 (holder_any c d s hc hd hs1)) ?_ ?_ eL (fun p' pre x W1 h1 h2 h3 h4 h5 => hY p' pre x W1 (fun b hb => h1 b (hp0 b hb)) h2 h3 h4 h5) h0
    · exact col_runs rfl e2 ⟨ea, eb⟩ ed
    · intro i hi
      have hx : (rAt (a / s, b / s) (0, 1) i).1 = a / s := by simp [rAt]
      have hy : (rAt (a / s, b / s) (0, 1) i).2 = b / s + i := by simp [rAt]
      have := row_runs (p := rAt (a / s, b / s) (0, 1) i) (z := c / s) (by rw [hx]; exact e1) (by rw [hx, hy]; refine ⟨ea, ?_⟩; unfold kxOf at hi; unfold in32 at *; omega) ec
      rw [hx] at this
      exact this
  | false =>
    have e : covL a b c d s = [] := by unfold covL; rw [hok]; rfl
    rw [e]
    refine (cover0_in n hn l bs bb a b c d s J ps W (ks.same (hk _ hs)) (kb.same (hk _ hb)) hJ hok h0).mono ?_
    rintro e W' ⟨h1, h2⟩
    exact ⟨h1, .inl ⟨ps, h2, fun b h => h⟩⟩

set_option maxHeartbeats 1000000 in
theorem cover_any (a b c d s : Int) (w : World) :
    Calls Try.prog 13 #[bx a b c d, .int .i64 s] w fun e w' => e = .returned (.func (.func 36) #[] #[.pointer (some ⟨w.heap.size + 1, 0, none⟩), .pointer (some ⟨w.heap.size, 0, none⟩)]) ∧
      Bk w' w.heap.size 25 [.int .i32 a, .int .i32 b, .int .i32 c, .int .i32 d] ∧ Bk w' (w.heap.size + 1) 2 [.int .i64 s] ∧ Gr w w' := by
  have k4 := (Bk.new w 25 [.int .i32 a, .int .i32 b, .int .i32 c, .int .i32 d]).alloc (.cells #[.int .i64 s] 2)
  have k5 := Bk.new (w.alloc (.cells #[.int .i32 a, .int .i32 b, .int .i32 c, .int .i32 d] 25)) 2 [.int .i64 s]
  simp only [World.size_alloc] at k5
  go_enter Try.func13, Try.ntmps13
  go_wp2
  go_ret
  exact ⟨by simp, k4, k5, ((Gr.refl _).alloc _).alloc _⟩

/-- The first cells of a box, in a row of their own. -/
theorem firstCover (a b c d s : Int) (w : World) (bs bb : Nat) (ks : Bk w bs 2 [.int .i64 s]) (kb : Bk w bb 25 [.int .i32 a, .int .i32 b, .int .i32 c, .int .i32 d]) :
    Calls Try.prog 16 #[.func (.func 36) #[] #[.pointer (some ⟨bs, 0, none⟩), .pointer (some ⟨bb, 0, none⟩)]] w fun e w' => ∃ v, e = .returned v ∧ w'.ownsRow w.heap.size 26 2 v ((covL a b c d s).take 401).length (flat ((covL a b c d s).take 401)) ∧ Below w.heap.size w w' :=
  callsIn_wide.1 (first_in 20 (by omega) 36 _ (covL a b c d s) (fun b => b = bs ∨ b = bb) w (by rintro b (rfl | rfl); exact ks.lt; exact kb.lt) (enters_of Try.func36 (by kernel_rfl) rfl)
    (cover_seq 19 (by omega) bs bb a b c d s _ w ks kb (.inl rfl) (.inr rfl)))

set_option maxHeartbeats 4000000 in
theorem count_no (a b c d s : Int) (w : World) (hok : (szB s && rtB a b c d) = false) :
    Calls Try.prog 11 #[bx a b c d, .int .i64 s] w fun e w' => e = .returned (.int .i64 0) ∧ Gr w w' := by
  have S1 := hid0 (isSize_any s)
  have S2 := hid0 (isRight_any a b c d)
  generalize szB s = b1 at *
  generalize rtB a b c d = b2 at *
  have kb := Bk.new w 25 [.int .i32 a, .int .i32 b, .int .i32 c, .int .i32 d]
  have gW : Gr w (w.alloc (.cells #[.int .i32 a, .int .i32 b, .int .i32 c, .int .i32 d] 25)) := (Gr.refl _).alloc _
  go_enter Try.func11, Try.ntmps11
  go_upto_region 1 with fail
  generalize w.alloc (.cells #[.int .i32 a, .int .i32 b, .int .i32 c, .int .i32 d] 25) = W0 at *
  obtain ⟨p0, p1, p2, p3⟩ := kb.four
  cases b1
  · go_wp2_with (go_at_call 30; refine (S1.out _).mono ?_; rintro e w1 ⟨rfl, rfl⟩; clear S1)
    go_ret
    exact ⟨rfl, gW⟩
  · cases b2
    · go_wp2_with (first
        | (go_at_call 30; refine (S1.out _).mono ?_; rintro e w1 ⟨rfl, rfl⟩; clear S1)
        | (go_at_call 34; refine (S2.out _).mono ?_; rintro e W ⟨rfl, g2⟩; clear S2))
      go_ret
      exact ⟨rfl, gW.trans g2⟩
    · cases hok

theorem count_any (a b c d s : Int) (w : World) :
    Calls Try.prog 11 #[bx a b c d, .int .i64 s] w fun e w' => e = .returned (.int .i64 (cntP a b c d s)) ∧ Gr w w' := by
  cases hok : (szB s && rtB a b c d) with
  | false =>
    have e : cntP a b c d s = 0 := by unfold cntP; rw [hok]; rfl
    rw [e]; exact count_no a b c d s w hok
  | true =>
    have hok' := hok
    rw [Bool.and_eq_true] at hok'
    obtain ⟨hz, hr⟩ := hok'
    obtain ⟨ha, hb', hc, hd, hac, hbd⟩ := rt_32 hr
    obtain ⟨hs1, hs2⟩ := szB_iff.1 hz
    have S1 := isSize_any s
    rw [hz] at S1
    have S2 := isRight_any a b c d
    rw [hr] at S2
    have e1 : a / s ≤ c / s := Int.ediv_le_ediv (by omega) hac
    have e2 : b / s ≤ d / s := Int.ediv_le_ediv (by omega) hbd
    obtain ⟨q1, q2, q3, q4⟩ := rtB_iff.1 hr
    have hp1 := plB_iff.1 q1
    have hp2 := plB_iff.1 q2
    have bnd : ∀ x, -1073741823 ≤ x ∧ x ≤ 1073741823 → -1073741823 ≤ x / s ∧ x / s ≤ 1073741823 := by
      intro x hx
      constructor
      · rw [Int.le_ediv_iff_mul_le (by omega)]
        have : -1073741823 * s ≤ -1073741823 * 1 := by omega
        omega
      · rcases Int.lt_or_le x 0 with h | h
        · have := Int.ediv_neg_of_neg_of_pos h (by omega : 0 < s); omega
        · have := Int.ediv_le_self s h; omega
    have ea := bnd a hp1.1
    have eb := bnd b hp1.2
    have ec := bnd c hp2.1
    have ed := bnd d hp2.2
    have e : cntP a b c d s = (c / s - a / s + 1) * (d / s - b / s + 1) := by unfold cntP; rw [hok]; rfl
    have hm1 : 0 ≤ (c / s - a / s + 1) * (d / s - b / s + 1) := Int.mul_nonneg (by omega) (by omega)
    have hm2 : (c / s - a / s + 1) * (d / s - b / s + 1) ≤ 2147483647 * 2147483647 := Int.mul_le_mul (by omega) (by omega) (by omega) (by omega)
    refine count_yes a b c d s (a / s) (b / s) (c / s) (d / s) _ w (hid0 S1) (hid0 S2) (hid0 (holder_any a b s ha hb' hs1)) (hid0 (holder_any c d s hc hd hs1)) ?_ ?_ ?_ ?_ ?_ ?_ ?_ ?_ ?_
    all_goals first
      | (rw [e]; refine w64_in ?_; unfold in64; omega)
      | (refine w64_in ?_; unfold in64; omega)
end Go.Proofs.Ytmoddfikhipagaa
