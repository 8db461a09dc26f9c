/- The document's own headings; same. -/
import Derived.Test.YtgdmbcfjjdngdaaDoorWr
import Derived.Test.YtgdmbcfjjdngdaaDoorSd
set_option linter.unusedSimpArgs false
set_option linter.unusedVariables false
namespace Go.Proofs.YtgdmbcfjjdngdaaDoor
open Go.RowKit Go.Sort Ieee

theorem same_any {r s X : Nat} (hr : V r X) (hs : V s X) (w : World) : Calls Tryd.prog 9 #[.float .f64 r, .float .f64 s] w fun e w' => e = .returned (.bool true) ∧ w' = w := by
  have hn := hr.nan
  have hm := hs.nan
  by_cases n : isN X
  · have e1 : FloatKind.f64.format.order r s = none := order_nan_l s (hn.2 n)
    have e2 : FloatKind.f64.format.order r r = none := order_nan_l r (hn.2 n)
    have e3 : FloatKind.f64.format.order s s = none := order_nan_l s (hm.2 n)
    clear hn hm n hr hs
    go_enter Tryd.func9, Tryd.ntmps9
    go_wp2
    go_ret
    exact ⟨rfl, rfl⟩
  · have h1 := hr.eq n
    have h2 := hs.eq n
    subst h1
    subst h2
    have e : (FloatKind.f64.format.order s s == some .eq) = true := by
      have := eq_key hs.1 hs.1
      show (double.order s s == some .eq) = true
      rw [this, decide_eq_true_eq]
      exact ⟨n, n, rfl⟩
    have e1 : FloatKind.f64.format.order s s = some .eq := by simpa using e
    clear hn hm n hr hs
    go_enter Tryd.func9, Tryd.ntmps9
    go_wp2
    go_ret
    exact ⟨rfl, rfl⟩
theorem flat_any (a b : Nat) (ha : a < 4294967296) (hb : b < 4294967296) (w : World) : Calls Tryd.prog 24 #[.int .u64 (a : Int), .int .u64 (b : Int)] w fun e w' => e = .returned (.bool (flB a b)) ∧ w' = w := by
  by_cases h1 : a ≤ b
  · have e : flB a b = false := by unfold flB; rw [decide_eq_false (show ¬ b < a by omega), Bool.false_and]
    have d1 : decide ((a : Int) ≤ (b : Int)) = true := decide_eq_true (by omega)
    have d1' : (a : Int) ≤ (b : Int) := by omega
    rw [e]
    clear e h1 ha hb
    go_enter Tryd.func24, Tryd.ntmps24
    go_wp2
    go_ret
    exact ⟨rfl, rfl⟩
  · obtain ⟨c, hc⟩ : ∃ c, c = a - b := ⟨_, rfl⟩
    have m1 : IntKind.u64.wrap ((a : Int) - (b : Int)) = (c : Int) := by rw [IntKind.wrap_u64]; omega
    have d1 : decide ((a : Int) ≤ (b : Int)) = false := decide_eq_false (by omega)
    have d1' : ¬ (a : Int) ≤ (b : Int) := by omega
    have hcc : c * c < 18446744073709551616 := by
      have := Nat.mul_le_mul (show c ≤ 4294967295 by omega) (show c ≤ 4294967295 by omega)
      omega
    have hbb : b * b < 18446744073709551616 := by
      have := Nat.mul_le_mul (show b ≤ 4294967295 by omega) (show b ≤ 4294967295 by omega)
      omega
    have e : flB a b = decide (2 * (b * b) < c * c) := by unfold flB; rw [← hc, decide_eq_true (show b < a by omega), Bool.true_and, Nat.mul_assoc]
    have m2 : IntKind.u64.wrap ((c : Int) * (c : Int)) = ((c * c : Nat) : Int) := by rw [IntKind.wrap_u64, ← Int.natCast_mul]; omega
    have m3 : IntKind.u64.wrap ((b : Int) * (b : Int)) = ((b * b : Nat) : Int) := by rw [IntKind.wrap_u64, ← Int.natCast_mul]; omega
    rw [e]
    generalize c * c = C at *
    generalize b * b = D at *
    obtain ⟨E, hE⟩ : ∃ E, E = C / 2 := ⟨_, rfl⟩
    have m4 : IntKind.u64.wrap ((C : Int) / 2) = (E : Int) := by rw [IntKind.wrap_u64]; omega
    clear e h1 ha hb hc hbb
    by_cases g1 : (E : Int) > (D : Int)
    · have HT : Hid (decide (2 * D < C) = true) := decide_eq_true (by omega)
      clear hE hcc
      go_enter Tryd.func24, Tryd.ntmps24
      go_wp2
      go_ret
      exact ⟨by rw [HT.out]; rfl, rfl⟩
    · by_cases g2 : (E : Int) = (D : Int)
      · by_cases g3 : (C : Int) % 2 = 1
        · have HT : Hid (decide (2 * D < C) = true) := decide_eq_true (by omega)
          have b1 : ((E : Int) == (D : Int)) = true := by simpa using g2
          have b2 : ((C : Int) % 2 == 1) = true := by simpa using g3
          clear hE hcc
          go_enter Tryd.func24, Tryd.ntmps24
          go_wp2
          go_ret
          exact ⟨by rw [HT.out]; rfl, rfl⟩
        · have HT : Hid (decide (2 * D < C) = false) := decide_eq_false (by omega)
          have b1 : ((E : Int) == (D : Int)) = true := by simpa using g2
          have b2 : ((C : Int) % 2 == 1) = false := by simpa using g3
          clear hE hcc g2 g3
          go_enter Tryd.func24, Tryd.ntmps24
          go_wp2
          go_ret
          exact ⟨by rw [HT.out]; rfl, rfl⟩
      · have HT : Hid (decide (2 * D < C) = false) := decide_eq_false (by omega)
        have b1 : ((E : Int) == (D : Int)) = false := by simpa using g2
        clear hE hcc
        go_enter Tryd.func24, Tryd.ntmps24
        go_wp2
        go_ret
        exact ⟨by rw [HT.out]; rfl, rfl⟩
set_option maxRecDepth 20000 in
set_option maxHeartbeats 4000000 in
theorem rheading_any {x y u v : Int} (hx : in32 x) (hy : in32 y) (hu : in32 u) (hv : in32 v) (w : World) :
    Calls Tryd.prog 14 #[pt x y, pt u v] w fun e w' => e = .returned (.int .i64 (hdF (u - x) (v - y))) ∧ Gr w w' := by
  obtain ⟨g, k1, k2⟩ := two_pts x y u v w
  have cx := conv64 hx
  have cy := conv64 hy
  have cu := conv64 hu
  have cv := conv64 hv
  have a1 := sub33 hx hu
  have a2 := sub33 hy hv
  obtain ⟨dx, hdx⟩ : ∃ dx, dx = u - x := ⟨_, rfl⟩
  obtain ⟨dy, hdy⟩ : ∃ dy, dy = v - y := ⟨_, rfl⟩
  rw [← hdx, ← hdy]
  have D1 : wrap64 (u - x) = dx := by rw [hdx]; exact a1.2
  have D2 : wrap64 (v - y) = dy := by rw [hdy]; exact a2.2
  have r1 := a1.1
  have r2 := a2.1
  rw [← hdx] at r1
  rw [← hdy] at r2
  clear a1 a2 hdx hdy
  have SZ : Hid (∀ d W, (d = dx ∨ d = dy) → Calls Tryd.prog 23 #[.int .i64 d] W fun e w' => e = .returned (.int .u64 (d.natAbs : Int)) ∧ w' = W) := fun d W hd => rsize_any (by rcases hd with rfl | rfl; exact r1; exact r2) W
  have FL : Hid (∀ p q W, p = dx.natAbs ∧ q = dy.natAbs ∨ p = dy.natAbs ∧ q = dx.natAbs → Calls Tryd.prog 24 #[.int .u64 (p : Int), .int .u64 (q : Int)] W fun e w' => e = .returned (.bool (flB p q)) ∧ w' = W) := fun p q W hpq => by
    unfold in33 at r1 r2
    exact flat_any p q (by rcases hpq with ⟨rfl, rfl⟩ | ⟨rfl, rfl⟩ <;> omega) (by rcases hpq with ⟨rfl, rfl⟩ | ⟨rfl, rfl⟩ <;> omega) W
  have G := hid0 g
  clear hx hy hu hv g r1 r2
  by_cases hz : dx = 0 ∧ dy = 0
  · obtain ⟨rfl, rfl⟩ := hz
    have HR : Hid (hdF 0 0 = -1) := hd_none
    go_enter Tryd.func14, Tryd.ntmps14
    go_upto_region 1 with fail
    generalize w.heap.size + 1 = b2 at *
    generalize w.heap.size = b1 at *
    generalize World.alloc _ _ = W at *
    obtain ⟨p0, p1⟩ := k1.two
    obtain ⟨q0, q1⟩ := k2.two
    clear k1 k2
    go_wp2_with (first
      | (go_at_call 23; refine (SZ.out _ _ (by first | exact .inl rfl | exact .inr rfl)).mono ?_; rintro e w2 ⟨rfl, hw⟩; cases hw)
      | (go_at_call 24; refine (FL.out _ _ _ (by first | exact .inl ⟨rfl, rfl⟩ | exact .inr ⟨rfl, rfl⟩)).mono ?_; rintro e w2 ⟨rfl, hw⟩; cases hw))
    go_ret
    exact ⟨by rw [HR.out]; rfl, G.out⟩
  have zz : (dx == 0 && dy == 0) = false := by
    rw [Bool.and_eq_false_iff]
    by_cases c : dx = 0
    · exact .inr (by simp; exact fun h => hz ⟨c, h⟩)
    · exact .inl (by simp [c])
  cases hp : flB dx.natAbs dy.natAbs with
  | true =>
    have h0 : dx ≠ 0 := fun e => (fl_ne hp).2 (by rw [e]; rfl)
    have hq := (fl_ne hp).1
    rcases Int.lt_or_gt_of_ne h0 with h | h
    · have HR : Hid (hdF dx dy = 4) := by show _ = _; unfold hdF; rw [if_pos hp, show sg3 dx = -1 from if_pos h]; rfl
      have zx : (dx == 0) = false := by simp; omega
      have px : ¬ dx > 0 := by omega
      have nx : dx < 0 := by omega
      clear h0 zz hz
      go_enter Tryd.func14, Tryd.ntmps14
      go_upto_region 1 with fail
      generalize w.heap.size + 1 = b2 at *
      generalize w.heap.size = b1 at *
      generalize World.alloc _ _ = W at *
      obtain ⟨p0, p1⟩ := k1.two
      obtain ⟨q0, q1⟩ := k2.two
      clear k1 k2
      go_wp2_with (first
        | (go_at_call 23; refine (SZ.out _ _ (by first | exact .inl rfl | exact .inr rfl)).mono ?_; rintro e w2 ⟨rfl, hw⟩; cases hw)
        | (go_at_call 24; refine (FL.out _ _ _ (by first | exact .inl ⟨rfl, rfl⟩ | exact .inr ⟨rfl, rfl⟩)).mono ?_; rintro e w2 ⟨rfl, hw⟩; cases hw))
      go_ret
      exact ⟨by rw [HR.out]; rfl, G.out⟩
    · have HR : Hid (hdF dx dy = 0) := by show _ = _; unfold hdF; rw [if_pos hp, show sg3 dx = 1 from by unfold sg3; rw [if_neg (by omega), if_pos h]]; rfl
      have zx : (dx == 0) = false := by simp; omega
      have px : dx > 0 := by omega
      have nx : ¬ dx < 0 := by omega
      clear h0 zz hz
      go_enter Tryd.func14, Tryd.ntmps14
      go_upto_region 1 with fail
      generalize w.heap.size + 1 = b2 at *
      generalize w.heap.size = b1 at *
      generalize World.alloc _ _ = W at *
      obtain ⟨p0, p1⟩ := k1.two
      obtain ⟨q0, q1⟩ := k2.two
      clear k1 k2
      go_wp2_with (first
        | (go_at_call 23; refine (SZ.out _ _ (by first | exact .inl rfl | exact .inr rfl)).mono ?_; rintro e w2 ⟨rfl, hw⟩; cases hw)
        | (go_at_call 24; refine (FL.out _ _ _ (by first | exact .inl ⟨rfl, rfl⟩ | exact .inr ⟨rfl, rfl⟩)).mono ?_; rintro e w2 ⟨rfl, hw⟩; cases hw))
      go_ret
      exact ⟨by rw [HR.out]; rfl, G.out⟩
  | false =>
    cases hq : flB dy.natAbs dx.natAbs with
    | true =>
      have h0 : dy ≠ 0 := fun e => (fl_ne hq).2 (by rw [e]; rfl)
      have z0 : (dy == 0) = false := by simpa using h0
      have zx : dx = 0 ∨ ((dx == 0) = false ∧ dx ≠ 0) := by
        by_cases c : dx = 0
        · exact .inl c
        · exact .inr ⟨by simpa using c, c⟩
      rcases Int.lt_or_gt_of_ne h0 with h | h
      · have HR : Hid (hdF dx dy = 6) := by show _ = _; unfold hdF; rw [if_neg (by rw [hp]; decide), if_pos hq, show sg3 dy = -1 from if_pos h]; rfl
        have py : ¬ dy > 0 := by omega
        have ny : dy < 0 := by omega
        clear h0 zz hz
        rcases zx with rfl | ⟨zx, zx'⟩
        all_goals
          go_enter Tryd.func14, Tryd.ntmps14
          go_upto_region 1 with fail
          generalize w.heap.size + 1 = b2 at *
          generalize w.heap.size = b1 at *
          generalize World.alloc _ _ = W at *
          obtain ⟨p0, p1⟩ := k1.two
          obtain ⟨q0, q1⟩ := k2.two
          clear k1 k2
          go_wp2_with (first
            | (go_at_call 23; refine (SZ.out _ _ (by first | exact .inl rfl | exact .inr rfl)).mono ?_; rintro e w2 ⟨rfl, hw⟩; cases hw)
            | (go_at_call 24; refine (FL.out _ _ _ (by first | exact .inl ⟨rfl, rfl⟩ | exact .inr ⟨rfl, rfl⟩)).mono ?_; rintro e w2 ⟨rfl, hw⟩; cases hw))
          go_ret
          exact ⟨by rw [HR.out]; rfl, G.out⟩
      · have HR : Hid (hdF dx dy = 2) := by show _ = _; unfold hdF; rw [if_neg (by rw [hp]; decide), if_pos hq, show sg3 dy = 1 from by unfold sg3; rw [if_neg (by omega), if_pos h]]; rfl
        have py : dy > 0 := by omega
        have ny : ¬ dy < 0 := by omega
        clear h0 zz hz
        rcases zx with rfl | ⟨zx, zx'⟩
        all_goals
          go_enter Tryd.func14, Tryd.ntmps14
          go_upto_region 1 with fail
          generalize w.heap.size + 1 = b2 at *
          generalize w.heap.size = b1 at *
          generalize World.alloc _ _ = W at *
          obtain ⟨p0, p1⟩ := k1.two
          obtain ⟨q0, q1⟩ := k2.two
          clear k1 k2
          go_wp2_with (first
            | (go_at_call 23; refine (SZ.out _ _ (by first | exact .inl rfl | exact .inr rfl)).mono ?_; rintro e w2 ⟨rfl, hw⟩; cases hw)
            | (go_at_call 24; refine (FL.out _ _ _ (by first | exact .inl ⟨rfl, rfl⟩ | exact .inr ⟨rfl, rfl⟩)).mono ?_; rintro e w2 ⟨rfl, hw⟩; cases hw))
          go_ret
          exact ⟨by rw [HR.out]; rfl, G.out⟩
    | false =>
      have h0 : dx ≠ 0 := fun e => by
        have := fl_zero (b := dy.natAbs) (fun h => hz ⟨e, by omega⟩)
        rw [e] at hq
        rw [show (0 : Int).natAbs = 0 from rfl, this] at hq
        cases hq
      have h1 : dy ≠ 0 := fun e => by
        have := fl_zero (b := dx.natAbs) (fun h => hz ⟨by omega, e⟩)
        rw [e] at hp
        rw [show (0 : Int).natAbs = 0 from rfl, this] at hp
        cases hp
      have HH : hdF dx dy = secT (sg3 dy) (sg3 dx) := by unfold hdF; rw [if_neg (by rw [hp]; decide), if_neg (by rw [hq]; decide)]
      rcases Int.lt_or_gt_of_ne h0 with h | h <;> rcases Int.lt_or_gt_of_ne h1 with k | k
      · have HR : Hid (hdF dx dy = 5) := by show _ = _; rw [HH, show sg3 dx = -1 from if_pos h, show sg3 dy = -1 from if_pos k]; rfl
        have zx : (dx == 0) = false := by simp; omega
        have px : ¬ dx > 0 := by omega
        have nx : dx < 0 := by omega
        have zy : (dy == 0) = false := by simp; omega
        have py : ¬ dy > 0 := by omega
        have ny : dy < 0 := by omega
        clear h0 h1 zz hz HH
        go_enter Tryd.func14, Tryd.ntmps14
        go_upto_region 1 with fail
        generalize w.heap.size + 1 = b2 at *
        generalize w.heap.size = b1 at *
        generalize World.alloc _ _ = W at *
        obtain ⟨p0, p1⟩ := k1.two
        obtain ⟨q0, q1⟩ := k2.two
        clear k1 k2
        go_wp2_with (first
          | (go_at_call 23; refine (SZ.out _ _ (by first | exact .inl rfl | exact .inr rfl)).mono ?_; rintro e w2 ⟨rfl, hw⟩; cases hw)
          | (go_at_call 24; refine (FL.out _ _ _ (by first | exact .inl ⟨rfl, rfl⟩ | exact .inr ⟨rfl, rfl⟩)).mono ?_; rintro e w2 ⟨rfl, hw⟩; cases hw))
        go_ret
        exact ⟨by rw [HR.out]; rfl, G.out⟩
      · have HR : Hid (hdF dx dy = 3) := by show _ = _; rw [HH, show sg3 dx = -1 from if_pos h, show sg3 dy = 1 from (by unfold sg3; rw [if_neg (by omega), if_pos k])]; rfl
        have zx : (dx == 0) = false := by simp; omega
        have px : ¬ dx > 0 := by omega
        have nx : dx < 0 := by omega
        have zy : (dy == 0) = false := by simp; omega
        have py : dy > 0 := by omega
        have ny : ¬ dy < 0 := by omega
        clear h0 h1 zz hz HH
        go_enter Tryd.func14, Tryd.ntmps14
        go_upto_region 1 with fail
        generalize w.heap.size + 1 = b2 at *
        generalize w.heap.size = b1 at *
        generalize World.alloc _ _ = W at *
        obtain ⟨p0, p1⟩ := k1.two
        obtain ⟨q0, q1⟩ := k2.two
        clear k1 k2
        go_wp2_with (first
          | (go_at_call 23; refine (SZ.out _ _ (by first | exact .inl rfl | exact .inr rfl)).mono ?_; rintro e w2 ⟨rfl, hw⟩; cases hw)
          | (go_at_call 24; refine (FL.out _ _ _ (by first | exact .inl ⟨rfl, rfl⟩ | exact .inr ⟨rfl, rfl⟩)).mono ?_; rintro e w2 ⟨rfl, hw⟩; cases hw))
        go_ret
        exact ⟨by rw [HR.out]; rfl, G.out⟩
      · have HR : Hid (hdF dx dy = 7) := by show _ = _; rw [HH, show sg3 dx = 1 from (by unfold sg3; rw [if_neg (by omega), if_pos h]), show sg3 dy = -1 from if_pos k]; rfl
        have zx : (dx == 0) = false := by simp; omega
        have px : dx > 0 := by omega
        have nx : ¬ dx < 0 := by omega
        have zy : (dy == 0) = false := by simp; omega
        have py : ¬ dy > 0 := by omega
        have ny : dy < 0 := by omega
        clear h0 h1 zz hz HH
        go_enter Tryd.func14, Tryd.ntmps14
        go_upto_region 1 with fail
        generalize w.heap.size + 1 = b2 at *
        generalize w.heap.size = b1 at *
        generalize World.alloc _ _ = W at *
        obtain ⟨p0, p1⟩ := k1.two
        obtain ⟨q0, q1⟩ := k2.two
        clear k1 k2
        go_wp2_with (first
          | (go_at_call 23; refine (SZ.out _ _ (by first | exact .inl rfl | exact .inr rfl)).mono ?_; rintro e w2 ⟨rfl, hw⟩; cases hw)
          | (go_at_call 24; refine (FL.out _ _ _ (by first | exact .inl ⟨rfl, rfl⟩ | exact .inr ⟨rfl, rfl⟩)).mono ?_; rintro e w2 ⟨rfl, hw⟩; cases hw))
        go_ret
        exact ⟨by rw [HR.out]; rfl, G.out⟩
      · have HR : Hid (hdF dx dy = 1) := by show _ = _; rw [HH, show sg3 dx = 1 from (by unfold sg3; rw [if_neg (by omega), if_pos h]), show sg3 dy = 1 from (by unfold sg3; rw [if_neg (by omega), if_pos k])]; rfl
        have zx : (dx == 0) = false := by simp; omega
        have px : dx > 0 := by omega
        have nx : ¬ dx < 0 := by omega
        have zy : (dy == 0) = false := by simp; omega
        have py : dy > 0 := by omega
        have ny : ¬ dy < 0 := by omega
        clear h0 h1 zz hz HH
        go_enter Tryd.func14, Tryd.ntmps14
        go_upto_region 1 with fail
        generalize w.heap.size + 1 = b2 at *
        generalize w.heap.size = b1 at *
        generalize World.alloc _ _ = W at *
        obtain ⟨p0, p1⟩ := k1.two
        obtain ⟨q0, q1⟩ := k2.two
        clear k1 k2
        go_wp2_with (first
          | (go_at_call 23; refine (SZ.out _ _ (by first | exact .inl rfl | exact .inr rfl)).mono ?_; rintro e w2 ⟨rfl, hw⟩; cases hw)
          | (go_at_call 24; refine (FL.out _ _ _ (by first | exact .inl ⟨rfl, rfl⟩ | exact .inr ⟨rfl, rfl⟩)).mono ?_; rintro e w2 ⟨rfl, hw⟩; cases hw))
        go_ret
        exact ⟨by rw [HR.out]; rfl, G.out⟩
end Go.Proofs.YtgdmbcfjjdngdaaDoor
