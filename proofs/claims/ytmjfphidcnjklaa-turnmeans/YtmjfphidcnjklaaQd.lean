/- Quarters: what Fit and Place tell of them, exactly; the law's quarter. -/
import Derived.Test.YtmjfphidcnjklaaQc
set_option linter.unusedSimpArgs false
namespace Go.Proofs.Ytmjfphidcnjklaa
open Go.RowKit Go.Sort Ieee

theorem fi_fl {n : Int} (h : n.natAbs ≤ 9007199254740992) : Fl (fi n) n := Fl.ofInt h
/-- What brings an axis to what a quarter makes of it. -/
theorem by_quarter {α β u v e f : Int} (hq : (α = 1 ∧ β = 0) ∨ (α = 0 ∧ β = 1) ∨ (α = -1 ∧ β = 0) ∨ (α = 0 ∧ β = -1)) (hax : (v = 0 ∧ u ≠ 0) ∨ (u = 0 ∧ v ≠ 0)) (lu : u.natAbs ≤ 3037000499) (lv : v.natAbs ≤ 3037000499) (he : e = α * u - β * v) (hf : f = α * v + β * u) :
    Fl (byRe (fi e) (fi f) (fi u) (fi v)) α ∧ Fl (byIm (fi e) (fi f) (fi u) (fi v)) β := by
  have ua : α = -1 ∨ α = 0 ∨ α = 1 := by rcases hq with ⟨h, _⟩ | ⟨h, _⟩ | ⟨h, _⟩ | ⟨h, _⟩ <;> omega
  have ub : β = -1 ∨ β = 0 ∨ β = 1 := by rcases hq with ⟨_, h⟩ | ⟨_, h⟩ | ⟨_, h⟩ | ⟨_, h⟩ <;> omega
  have U : Fl (fi u) u := fi_fl (by omega)
  have W : Fl (fi v) v := fi_fl (by omega)
  have la : α.natAbs ≤ 1 := by omega
  have lb : β.natAbs ≤ 1 := by omega
  have m1 := mul_bd la lu
  have m2 := mul_bd lb lv
  have m3 := mul_bd la lv
  have m4 := mul_bd lb lu
  have E : Fl (fi e) e := fi_fl (by rw [he]; omega)
  have F : Fl (fi f) f := fi_fl (by rw [hf]; omega)
  have sqp : ∀ x : Int, x ≠ 0 → x.natAbs ≤ 3037000499 → fin (fi (x * x)) ∧ 0 < sgI (fi (x * x)) := fun x x0 hx => by
    have hN : 0 < x * x := by
      rcases Int.lt_or_gt_of_ne x0 with c | c
      · exact Int.mul_pos_of_neg_of_neg c c
      · exact Int.mul_pos c c
    exact foi_pos hN (by have := mul_bd hx hx; omega)
  rcases hax with ⟨rfl, u0⟩ | ⟨rfl, v0⟩
  · rw [Int.mul_zero, Int.sub_zero] at he
    rw [Int.mul_zero, Int.zero_add] at hf
    subst he hf
    obtain ⟨p1, p2⟩ := sg_mul ua E U u0 lu
    obtain ⟨p3, p4⟩ := sg_mul ub F U u0 lu
    obtain ⟨p5, p6⟩ := sg_mul (k := 1) (.inr (.inr rfl)) (by rw [Int.one_mul]; exact U) U u0 lu
    obtain ⟨z1, z2⟩ := fl_mul0 F W
    obtain ⟨z3, z4⟩ := fl_mul0 E W
    obtain ⟨z5, z6⟩ := fl_mul0 W W
    obtain ⟨s1, s2⟩ := sg_add p1 z1 z2
    obtain ⟨s3, s4⟩ := sg_sub p3 z3 z4
    obtain ⟨s5, s6⟩ := sg_add p5 z5 z6
    have pos := (sqp u u0 lu).2
    refine ⟨sg_quo s1 s5 ua ?_ ?_, sg_quo s3 s5 ub ?_ ?_⟩
    · show 0 < sgI (fo .add _ _); rw [s6, p6]; omega
    · show _ = _ * sgI (fo .add _ _); rw [s2, p2, s6, p6, Int.one_mul]
    · show 0 < sgI (fo .add _ _); rw [s6, p6]; omega
    · show _ = _ * sgI (fo .add _ _); rw [s4, p4, s6, p6, Int.one_mul]
  · rw [Int.mul_zero, Int.zero_sub, ← Int.neg_mul] at he
    rw [Int.mul_zero, Int.add_zero] at hf
    subst he hf
    obtain ⟨p1, p2⟩ := sg_mul ua F W v0 lv
    obtain ⟨p3, p4⟩ := sg_mul (k := -β) (by omega) E W v0 lv
    obtain ⟨p5, p6⟩ := sg_mul (k := 1) (.inr (.inr rfl)) (by rw [Int.one_mul]; exact W) W v0 lv
    obtain ⟨z1, z2⟩ := fl_mul0 E U
    obtain ⟨z3, z4⟩ := fl_mul0 F U
    obtain ⟨z5, z6⟩ := fl_mul0 U U
    obtain ⟨s1, s2⟩ := sg_add' z1 p1 z2
    obtain ⟨s3, s4⟩ := sg_sub' z3 p3 z4
    obtain ⟨s5, s6⟩ := sg_add' z5 p5 z6
    have pos := (sqp v v0 lv).2
    refine ⟨sg_quo s1 s5 ua ?_ ?_, sg_quo s3 s5 ub ?_ ?_⟩
    · show 0 < sgI (fo .add _ _); rw [s6, p6]; omega
    · show _ = _ * sgI (fo .add _ _); rw [s2, p2, s6, p6, Int.one_mul]
    · show 0 < sgI (fo .add _ _); rw [s6, p6]; omega
    · show _ = _ * sgI (fo .add _ _); rw [s4, p4, s6, p6, Int.one_mul, Int.neg_mul, Int.neg_neg]

/-! ### Whole numbers are nearest to themselves -/
theorem rte_whole {x : Nat} {n : Int} (h : Fl x n) (hb : n.natAbs ≤ 9007199254740992) : Fl (rteF x) n := by
  obtain ⟨m, k, e, v⟩ := read_fin h.1
  rw [h.val] at v
  unfold rteF
  rw [e]
  show Fl (double.nearest (decide (9223372036854775808 ≤ x)) (Toward.even.cut (decide (9223372036854775808 ≤ x)) (m <<< ((k : Int) - 1074).toNat) (-((k : Int) - 1074)).toNat) 0) n
  have C : Toward.even.cut (decide (9223372036854775808 ≤ x)) (m <<< ((k : Int) - 1074).toNat) (-((k : Int) - 1074)).toNat = n.natAbs := by
    obtain ⟨T, hT⟩ : ∃ T : Nat, T = 1074 := ⟨_, rfl⟩
    rw [one_is', ← hT] at v
    rw [Nat.shiftLeft_eq]
    by_cases c : T ≤ k
    · rw [show ((k : Int) - 1074).toNat = k - T from by omega, show (-((k : Int) - 1074)).toNat = 0 from by omega, cut_even0]
      refine Nat.eq_of_mul_eq_mul_right (Nat.two_pow_pos T) ?_
      rw [Nat.mul_assoc, ← Nat.pow_add, show k - T + T = k from by omega]; exact v
    · rw [show ((k : Int) - 1074).toNat = 0 from by omega, show (-((k : Int) - 1074)).toNat = T - k from by omega, Nat.pow_zero, Nat.mul_one]
      have : m = n.natAbs * 2 ^ (T - k) := by
        refine Nat.eq_of_mul_eq_mul_right (Nat.two_pow_pos k) ?_
        rw [Nat.mul_assoc, ← Nat.pow_add, show T - k + k = T from by omega]; exact v
      rw [this, cut_exact]
  rw [C]
  by_cases n0 : n = 0
  · subst n0
    show Fl (double.nearest _ 0 0) 0
    rw [nearest_zero]
    exact word_zero _
  · rw [h.sign n0]
    exact Fl.ofInt hb
theorem val_whole {r : Nat} {n : Int} (h : Fl r n) (hb : n.natAbs ≤ 1073741823) : floatToIntVal .f64 r .i32 = some n := by
  have hp := one_pos
  unfold floatToIntVal
  have e : (FloatKind.f64.decode r).toInt .zero = _ := toInt_zero h.1
  rw [e, h.val, Nat.mul_div_cancel _ hp]
  have m1 : IntKind.i32.min = -2147483648 := by decide
  have m2 : IntKind.i32.max = 2147483647 := by decide
  have en : (if 9223372036854775808 ≤ r then -((n.natAbs : Nat) : Int) else ((n.natAbs : Nat) : Int)) = n := by
    by_cases n0 : n = 0
    · subst n0; simp
    · have := h.sign n0
      by_cases c : 9223372036854775808 ≤ r
      · rw [if_pos c]; rw [decide_eq_true c] at this; have := of_decide_eq_true this.symm; omega
      · rw [if_neg c]; rw [decide_eq_false c] at this; have := of_decide_eq_false this.symm; omega
  rw [en]
  simp only []
  rw [m1, m2, if_pos (by omega)]
theorem nr_whole {x : Nat} {n : Int} (h : Fl x n) (hb : n.natAbs ≤ 9007199254740992) : nrF x = if n.natAbs ≤ 1073741823 then (n, 0) else (0, 21) := by
  have hr := rte_whole h hb
  unfold nrF
  rw [if_neg (fin_num h.1)]
  have ho : outB (rteF x) = decide (1073741823 < n.natAbs) := by
    unfold outB
    rw [show double.order (rteF x) 13965662444467519488 = some (compare n (-1073741823)) from hr.order fl_lo, show double.order (rteF x) 4742290407612743680 = some (compare n 1073741823) from hr.order fl_hi]
    rcases Int.lt_trichotomy n (-1073741823) with c | c | c
    · rw [cmp_lt c, decide_eq_true (by omega)]; rfl
    · rw [cmp_eq c, cmp_lt (show n < 1073741823 from by omega), decide_eq_false (by omega)]; rfl
    · rw [cmp_gt c]
      rcases Int.lt_trichotomy n 1073741823 with c2 | c2 | c2
      · rw [cmp_lt c2, decide_eq_false (by omega)]; rfl
      · rw [cmp_eq c2, decide_eq_false (by omega)]; rfl
      · rw [cmp_gt c2, decide_eq_true (by omega)]; rfl
  rw [ho]
  by_cases c : n.natAbs ≤ 1073741823
  · rw [if_pos c, decide_eq_false (by omega), if_neg (by decide), val_whole hr c]; rfl
  · rw [if_neg c, decide_eq_true (by omega), if_pos rfl]
/-- Where a quarter and a whole way place a point. -/
def plI (n1 n2 : Int) : Int × Int × Int := if n1.natAbs ≤ 1073741823 then (if n2.natAbs ≤ 1073741823 then (n1, n2, 0) else (0, 0, 21)) else (0, 0, 21)
theorem pl_whole {X Y : Nat} {n1 n2 : Int} (h1 : Fl X n1) (h2 : Fl Y n2) (b1 : n1.natAbs ≤ 9007199254740992) (b2 : n2.natAbs ≤ 9007199254740992) : plF X Y = plI n1 n2 := by
  unfold plF plI
  rw [nr_whole h1 b1, nr_whole h2 b2]
  by_cases c1 : n1.natAbs ≤ 1073741823 <;> by_cases c2 : n2.natAbs ≤ 1073741823 <;> simp [c1, c2]
theorem place_quarter {a b c d : Nat} {α β r s x y : Int} (h : Qt a b α β) (hc : Fl c r) (hd : Fl d s) (lr : r.natAbs ≤ 1073741824) (ls : s.natAbs ≤ 1073741824) (hx : in32 x) (hy : in32 y) (w : World) :
    Calls Try.prog 29 #[simV a b c d, ptV x y] w fun e w' => e = .returned (.tuple #[ptV (plI (α * x - β * y + r) (α * y + β * x + s)).1 (plI (α * x - β * y + r) (α * y + β * x + s)).2.1, .int .i64 (plI (α * x - β * y + r) (α * y + β * x + s)).2.2]) ∧ Gr w w' := by
  have lx : x.natAbs ≤ 2147483648 := by unfold in32 at hx; omega
  have ly : y.natAbs ≤ 2147483648 := by unfold in32 at hy; omega
  obtain ⟨t1, t2⟩ := tRe_fl (A := 1) (B := 2147483648) h.a h.b (fi_fl (n := x) (by omega)) (fi_fl (n := y) (by omega)) h.la h.lb lx ly (by decide)
  obtain ⟨t3, t4⟩ := tIm_fl (A := 1) (B := 2147483648) h.a h.b (fi_fl (n := x) (by omega)) (fi_fl (n := y) (by omega)) h.la h.lb lx ly (by decide)
  have := place29_any h.a.v h.b.v hc.v hd.v hx hy w rfl rfl
  rw [pl_whole (t1.foAdd hc (by omega)) (t3.foAdd hd (by omega)) (by omega) (by omega)] at this
  exact this
theorem fl_none : Fl 13830554455654793216 (-1) := by
  have := Fl.ofInt (n := -1) (by decide)
  rwa [show floatOfInt .f64 (-1) = 13830554455654793216 from by decide] at this
theorem and3 (Q : Int) : ∃ k : Nat, k ≤ 3 ∧ bits .and .i64 Q 3 = (k : Int) := by
  refine ⟨(BitVec.ofInt 64 Q &&& BitVec.ofInt 64 3).toNat, ?_, ?_⟩
  · rw [BitVec.toNat_and]; exact Nat.and_le_right
  · have h : (BitVec.ofInt 64 Q &&& BitVec.ofInt 64 3).toNat ≤ 3 := by rw [BitVec.toNat_and]; exact Nat.and_le_right
    show IntKind.i64.wrap ((BitVec.ofInt 64 Q &&& BitVec.ofInt 64 3).toNat : Int) = _
    generalize (BitVec.ofInt 64 Q &&& BitVec.ofInt 64 3).toNat = n at h
    have : n = 0 ∨ n = 1 ∨ n = 2 ∨ n = 3 := by omega
    rcases this with rfl | rfl | rfl | rfl <;> rfl
set_option maxHeartbeats 800000 in
theorem quarter_any (K : Int) : ∃ a b α β, Qt a b α β ∧ ∀ w, Calls Try.prog 37 #[.int .i64 K] w fun e w' => e = .returned (.complex .f64 a b) ∧ w' = w := by
  obtain ⟨k, hk, hK⟩ := and3 K
  rcases (show k = 0 ∨ k = 1 ∨ k = 2 ∨ k = 3 from by omega) with rfl | rfl | rfl | rfl
  · refine ⟨4607182418800017408, 0, 1, 0, ⟨fl_one, Fl.zero, by omega⟩, fun w => ?_⟩
    have h0 : bits .and .i64 K 3 = 0 := hK
    clear hK hk
    go_enter Try.func37, Try.ntmps37
    go_wp2
    go_ret
    exact ⟨rfl, rfl⟩
  · refine ⟨0, 4607182418800017408, 0, 1, ⟨Fl.zero, fl_one, by omega⟩, fun w => ?_⟩
    have h0 : bits .and .i64 K 3 = 1 := hK
    clear hK hk
    go_enter Try.func37, Try.ntmps37
    go_wp2
    go_ret
    exact ⟨rfl, rfl⟩
  · refine ⟨13830554455654793216, 0, -1, 0, ⟨fl_none, Fl.zero, by omega⟩, fun w => ?_⟩
    have h0 : bits .and .i64 K 3 = 2 := hK
    clear hK hk
    go_enter Try.func37, Try.ntmps37
    go_wp2
    go_ret
    exact ⟨rfl, rfl⟩
  · refine ⟨0, 13830554455654793216, 0, -1, ⟨Fl.zero, fl_none, by omega⟩, fun w => ?_⟩
    have h0 : bits .and .i64 K 3 = 3 := hK
    clear hK hk
    go_enter Try.func37, Try.ntmps37
    go_wp2
    go_ret
    exact ⟨rfl, rfl⟩
theorem fit_quarter {a b : Nat} {α β r s px py qx qy : Int} (h : Qt a b α β)
    (lpx : px.natAbs ≤ 1073741823) (lpy : py.natAbs ≤ 1073741823) (lqx : qx.natAbs ≤ 1073741823) (lqy : qy.natAbs ≤ 1073741823) (hax : (qy = py ∧ qx ≠ px) ∨ (qx = px ∧ qy ≠ py))
    {rx ry sx sy : Int} (e1 : rx = α * px - β * py + r) (e2 : ry = α * py + β * px + s) (e3 : sx = α * qx - β * qy + r) (e4 : sy = α * qy + β * qx + s) (l1 : rx.natAbs ≤ 1073741823) (l2 : ry.natAbs ≤ 1073741823) (l3 : sx.natAbs ≤ 1073741823) (l4 : sy.natAbs ≤ 1073741823) (w : World) :
    Calls Try.prog 27 #[ptV px py, ptV qx qy, ptV rx ry, ptV sx sy] w fun e w' => ∃ x y z t, e = .returned (.tuple #[simV x y z t, .int .i64 0]) ∧ (Fl x α ∧ Fl y β ∧ Fl z r ∧ Fl t s) ∧ Gr w w' := by
  have i32 : ∀ x : Int, x.natAbs ≤ 1073741823 → in32 x := fun x hx => by unfold in32; omega
  have hne : ((px == qx) && (py == qy)) = false := by
    rcases hax with ⟨h1, h2⟩ | ⟨h1, h2⟩
    · have : (px == qx) = false := by rw [beq_eq_false_iff_ne]; omega
      rw [this]; rfl
    · have : (py == qy) = false := by rw [beq_eq_false_iff_ne]; omega
      rw [this, Bool.and_false]
  obtain ⟨A, B⟩ := by_quarter (u := qx - px) (v := qy - py) (e := sx - rx) (f := sy - ry) h.q (by omega) (by omega) (by omega) (by subst e1 e3; grind) (by subst e2 e4; grind)
  obtain ⟨t1, t2⟩ := tRe_fl (A := 1) (B := 1073741823) A B (fi_fl (n := px) (by omega)) (fi_fl (n := py) (by omega)) h.la h.lb lpx lpy (by decide)
  obtain ⟨t3, t4⟩ := tIm_fl (A := 1) (B := 1073741823) A B (fi_fl (n := px) (by omega)) (fi_fl (n := py) (by omega)) h.la h.lb lpx lpy (by decide)
  have C := (fi_fl (n := rx) (by omega)).foSub t1 (by omega)
  have D := (fi_fl (n := ry) (by omega)).foSub t3 (by omega)
  rw [show rx - (α * px - β * py) = r from by omega] at C
  rw [show ry - (α * py + β * px) = s from by omega] at D
  refine (fit_yes (i32 _ lpx) (i32 _ lpy) (i32 _ lqx) (i32 _ lqy) (i32 _ l1) (i32 _ l2) (i32 _ l3) (i32 _ l4) hne w).mono ?_
  rintro e w' ⟨x, y, z, t, rfl, g1, g2, g3, g4, g⟩
  exact ⟨x, y, z, t, rfl, ⟨g1.fl A, g2.fl B, g3.fl C, g4.fl D⟩, g⟩
end Go.Proofs.Ytmjfphidcnjklaa
