/- Quarters: what Back, Fit and Place tell of them, exactly. -/
import Derived.Test.YtmjfphidcnjklaaWf
import Derived.Test.YtmjfphidcnjklaaFi
import Derived.Test.YtmjfphidcnjklaaQp
set_option linter.unusedSimpArgs false
namespace Go.Proofs.Ytmjfphidcnjklaa
open Go.RowKit Go.Sort Ieee

/-! ### Plain: numbers that are one size, or 0 -/
theorem sg_add {x y : Nat} (hx : fin x) (hy : fin y) (h : sgI y = 0) : fin (fo .add x y) ∧ sgI (fo .add x y) = sgI x := by
  obtain ⟨c, h1, h2, h3⟩ := add_exact hx hy hx.2 (by rw [h, Int.add_zero, sgI_of hx]; split <;> omega)
  have e : fo .add x y = c := by unfold fo; rw [show floatBits .add .f64 x y = some c from h1]; rfl
  rw [e, h3, h, Int.add_zero]
  exact ⟨h2, rfl⟩
theorem sg_add' {x y : Nat} (hx : fin x) (hy : fin y) (h : sgI x = 0) : fin (fo .add x y) ∧ sgI (fo .add x y) = sgI y := by
  obtain ⟨c, h1, h2, h3⟩ := add_exact hx hy hy.2 (by rw [h, Int.zero_add, sgI_of hy]; split <;> omega)
  have e : fo .add x y = c := by unfold fo; rw [show floatBits .add .f64 x y = some c from h1]; rfl
  rw [e, h3, h, Int.zero_add]
  exact ⟨h2, rfl⟩
theorem sg_sub {x y : Nat} (hx : fin x) (hy : fin y) (h : sgI y = 0) : fin (fo .sub x y) ∧ sgI (fo .sub x y) = sgI x := by
  obtain ⟨c, h1, h2, h3⟩ := sub_exact hx hy hx.2 (by rw [h, Int.sub_zero, sgI_of hx]; split <;> omega)
  have e : fo .sub x y = c := by unfold fo; rw [show floatBits .sub .f64 x y = some c from h1]; rfl
  rw [e, h3, h, Int.sub_zero]
  exact ⟨h2, rfl⟩
theorem sg_sub' {x y : Nat} (hx : fin x) (hy : fin y) (h : sgI x = 0) : fin (fo .sub x y) ∧ sgI (fo .sub x y) = -sgI y := by
  obtain ⟨c, h1, h2, h3⟩ := sub_exact hx hy hy.2 (by rw [h, Int.zero_sub, Int.natAbs_neg, sgI_of hy]; split <;> omega)
  have e : fo .sub x y = c := by unfold fo; rw [show floatBits .sub .f64 x y = some c from h1]; rfl
  rw [e, h3, h, Int.zero_sub]
  exact ⟨h2, rfl⟩
theorem rung_eq {r t : Nat} (h : valN r = valN t) : r = t := by
  rcases Nat.lt_trichotomy r t with c | c | c
  · have := valN_lt c; omega
  · exact c
  · have := valN_lt c; omega
theorem sg_quo {x d : Nat} {k : Int} (hx : fin x) (hd : fin d) (hk : k = -1 ∨ k = 0 ∨ k = 1) (h0 : 0 < sgI d) (h : sgI x = k * sgI d) : Fl (fo .quo x d) k := by
  have hdp : ¬ 9223372036854775808 ≤ d := by
    intro c
    rw [sgI_of hd, if_pos (by simpa using c)] at h0
    omega
  have ed : sgI d = (valN (d % 9223372036854775808) : Int) := by rw [sgI_of hd, if_neg (by simpa using hdp)]
  have nd : d % 9223372036854775808 ≠ 0 := by intro c; rw [ed, c, valN_zero] at h0; omega
  have W1 : ∀ s, Fl (double.word s 4607182418800017408) (if s then -1 else 1) := fun s => by
    have := word_fin s (r := 4607182418800017408) (by decide)
    refine ⟨this.1, ?_⟩
    rw [this.2]
    show (if s = true then -(one1 : Int) else (one1 : Int)) = _
    cases s <;> simp
  rcases hk with rfl | rfl | rfl
  · have hn : 9223372036854775808 ≤ x := by
      apply Classical.byContradiction
      intro c
      rw [sgI_of hx, if_neg (by simpa using c)] at h
      omega
    have er : x % 9223372036854775808 = d % 9223372036854775808 := rung_eq (by rw [sgI_of hx, if_pos (by simpa using hn), ed] at h; omega)
    refine fo_fl (quo_unit hx hd er nd) ?_
    rw [decide_eq_true hn, decide_eq_false hdp]
    exact W1 true
  · have er : x % 9223372036854775808 = 0 := by
      rw [Int.zero_mul, sgI_of hx] at h
      rcases Nat.eq_zero_or_pos (x % 9223372036854775808) with c | c
      · exact c
      · have := valN_pos c; split at h <;> omega
    obtain ⟨s, hs⟩ := quo_zero hx hd er nd
    exact fo_fl hs (word_zero s)
  · have hn : ¬ 9223372036854775808 ≤ x := by
      intro c
      rw [sgI_of hx, if_pos (by simpa using c)] at h
      omega
    have er : x % 9223372036854775808 = d % 9223372036854775808 := rung_eq (by rw [sgI_of hx, if_neg (by simpa using hn), ed] at h; omega)
    refine fo_fl (quo_unit hx hd er nd) ?_
    rw [decide_eq_false hn, decide_eq_false hdp]
    exact W1 false
/-- A whole number above 0, rounded. -/
theorem foi_pos {N : Int} (h : 0 < N) (h' : N ≤ 9223372036854775807) : fin (fi N) ∧ 0 < sgI (fi N) := by
  have hd : decide (N < 0) = false := by simp; omega
  have e : fi N = double.nearest false N.natAbs 0 := by show double.nearest (decide (N < 0)) _ _ = _; rw [hd]
  have hw : ∃ r, 0 < r ∧ r < 9218868437227405312 ∧ double.nearest false N.natAbs 0 = double.word false r := by
    have hl1 : 2 ^ N.natAbs.log2 ≤ N.natAbs := Nat.log2_self_le (by omega)
    have hl2 : N.natAbs < 2 ^ (N.natAbs.log2 + 1) := Nat.lt_log2_self
    have hL : N.natAbs.log2 ≤ 63 := by
      apply Classical.byContradiction
      intro hc
      have : 2 ^ 64 ≤ 2 ^ N.natAbs.log2 := Nat.pow_le_pow_right (by omega) (by omega)
      omega
    generalize N.natAbs = A at *
    generalize A.log2 = L at *
    by_cases c : L ≤ 52
    · have hN := nearest_small false A L (L + 1022) 0 hl1 hl2 c (by omega) (by omega)
      rw [hN.1]
      have h1 := hN.2.lo
      have h2 := hN.2.hi
      generalize A * 2 ^ (52 - L) = M at *
      clear hl1 hl2 hN
      refine ⟨(L + 1022) * 4503599627370496 + M, by omega, by omega, ?_⟩
      unfold fw Format.word
      simp
    · obtain ⟨K, rfl⟩ : ∃ K, L = 52 + K := ⟨L - 52, by omega⟩
      rw [nearest_at _ A K 0 hl1 (by rw [show 53 + K = 52 + K + 1 from by omega]; exact hl2) (by omega)]
      have hr : rne A K ≤ 9007199254740992 := by
        unfold rne
        have hd : A / 2 ^ K < 9007199254740992 := by
          rw [Nat.div_lt_iff_lt_mul (Nat.two_pow_pos K)]
          have e : (2 : Nat) ^ (52 + K + 1) = 9007199254740992 * 2 ^ K := by rw [show 52 + K + 1 = 53 + K from by omega, Nat.pow_add]
          rw [← e]; exact hl2
        split <;> omega
      generalize rne A K = R at *
      clear hl1 hl2
      rw [show (0 + (K : Int) + 1074).toNat = K + 1074 from by omega, Nat.min_eq_left (by omega)]
      exact ⟨_, by omega, by omega, rfl⟩
  obtain ⟨r, r0, r1, er⟩ := hw
  rw [e, er]
  refine ⟨(word_fin false r1).1, ?_⟩
  rw [(word_fin false r1).2]
  have := valN_pos r0
  simp
  omega
theorem foi_neg {N : Int} (h : 0 < N) (h' : N ≤ 9223372036854775807) : fin (fi (-N)) ∧ sgI (fi (-N)) = -sgI (fi N) := by
  obtain ⟨f, p⟩ := foi_pos h h'
  have e : fi (-N) = double.word true (fi N) := by
    show double.nearest (decide (-N < 0)) (-N).natAbs 0 = double.word true (double.nearest (decide (N < 0)) N.natAbs 0)
    rw [nearest_sign, show decide (-N < 0) = true from by simp; omega, show decide (N < 0) = false from by simp; omega, Int.natAbs_neg]
  have hr : fi N < 9218868437227405312 := by
    have f2 := f.2
    have : ¬ 9223372036854775808 ≤ fi N := by
      intro c
      rw [sgI_of f, if_pos (by simpa using c)] at p
      omega
    omega
  rw [e]
  refine ⟨(word_fin true hr).1, ?_⟩
  rw [(word_fin true hr).2]
  have : sgI (fi N) = (valN (fi N) : Int) := by unfold sgI; rw [if_pos (by omega)]
  rw [this]
  rfl
/-- A product of two whole numbers that are alike but for a sign, or of which the first is 0. -/
theorem sg_mul {x y : Nat} {k u : Int} (hk : k = -1 ∨ k = 0 ∨ k = 1) (hx : Fl x (k * u)) (hy : Fl y u) (u0 : u ≠ 0) (hu : u.natAbs ≤ 3037000499) : fin (fo .mul x y) ∧ sgI (fo .mul x y) = k * sgI (fi (u * u)) := by
  have hN : 0 < u * u := by
    rcases Int.lt_or_gt_of_ne u0 with c | c
    · exact Int.mul_pos_of_neg_of_neg c c
    · exact Int.mul_pos c c
  have hN' : u * u ≤ 9223372036854775807 := by
    have := mul_bd hu hu
    omega
  rcases hk with rfl | rfl | rfl
  · have e : fo .mul x y = fi (-(u * u)) := by unfold fo; rw [mul_foi hx hy (by omega) u0]; show floatOfInt .f64 _ = floatOfInt .f64 _; congr 1; rw [Int.neg_mul, Int.one_mul, Int.neg_mul]
    rw [e]
    have := foi_neg hN hN'
    exact ⟨this.1, by rw [this.2]; omega⟩
  · have := hx.foMul hy (by rw [Int.zero_mul, Int.zero_mul]; decide)
    rw [Int.zero_mul, Int.zero_mul] at this
    exact ⟨this.1, by rw [this.2]; omega⟩
  · have e : fo .mul x y = fi (u * u) := by unfold fo; rw [mul_foi hx hy (by omega) u0]; show floatOfInt .f64 _ = floatOfInt .f64 _; congr 1; rw [Int.one_mul]
    rw [e]
    have := foi_pos hN hN'
    exact ⟨this.1, by omega⟩
theorem fl_mul0 {x y : Nat} {m : Int} (hx : Fl x m) (hy : Fl y 0) : fin (fo .mul x y) ∧ sgI (fo .mul x y) = 0 := by
  have := hx.foMul hy (by rw [Int.mul_zero]; decide)
  rw [Int.mul_zero] at this
  exact ⟨this.1, by rw [this.2]; omega⟩
theorem fl_0mul {x y : Nat} {m : Int} (hx : Fl x 0) (hy : Fl y m) : fin (fo .mul x y) ∧ sgI (fo .mul x y) = 0 := by
  have := hx.foMul hy (by rw [Int.zero_mul]; decide)
  rw [Int.zero_mul] at this
  exact ⟨this.1, by rw [this.2]; omega⟩

/-! ### Quarters -/
structure Qt (a b : Nat) (α β : Int) : Prop where
  a : Fl a α
  b : Fl b β
  q : (α = 1 ∧ β = 0) ∨ (α = 0 ∧ β = 1) ∨ (α = -1 ∧ β = 0) ∨ (α = 0 ∧ β = -1)
theorem Qt.ua {a b : Nat} {α β : Int} (h : Qt a b α β) : α = -1 ∨ α = 0 ∨ α = 1 := by rcases h.q with ⟨h, _⟩ | ⟨h, _⟩ | ⟨h, _⟩ | ⟨h, _⟩ <;> omega
theorem Qt.ub {a b : Nat} {α β : Int} (h : Qt a b α β) : β = -1 ∨ β = 0 ∨ β = 1 := by rcases h.q with ⟨_, h⟩ | ⟨_, h⟩ | ⟨_, h⟩ | ⟨_, h⟩ <;> omega
theorem Qt.sq {a b : Nat} {α β : Int} (h : Qt a b α β) : α * α + β * β = 1 := by rcases h.q with ⟨h, k⟩ | ⟨h, k⟩ | ⟨h, k⟩ | ⟨h, k⟩ <;> subst h k <;> decide
theorem Qt.la {a b : Nat} {α β : Int} (h : Qt a b α β) : α.natAbs ≤ 1 := by have := h.ua; omega
theorem Qt.lb {a b : Nat} {α β : Int} (h : Qt a b α β) : β.natAbs ≤ 1 := by have := h.ub; omega
theorem Qt.sqF {a b : Nat} {α β : Int} (h : Qt a b α β) : Fl (sqF a b) 1 := by
  have m1 := mul_bd h.la h.la
  have m2 := mul_bd h.lb h.lb
  have := (h.a.foMul h.a (by omega)).foAdd (h.b.foMul h.b (by omega)) (by omega)
  rw [h.sq] at this
  exact this
theorem fl_quo1 {x d : Nat} {k : Int} (hx : Fl x k) (hd : Fl d 1) (hk : k = -1 ∨ k = 0 ∨ k = 1) : Fl (fo .quo x d) k := by
  have hp := one_pos
  refine sg_quo hx.1 hd.1 hk ?_ ?_
  · rw [hd.2]; omega
  · rw [hx.2, hd.2, Int.one_mul]
theorem back_quarter {a b c d : Nat} {α β r s : Int} (h : Qt a b α β) (hc : Fl c r) (hd : Fl d s) (lr : r.natAbs ≤ 1073741824) (ls : s.natAbs ≤ 1073741824) (w : World) :
    Calls Try.prog 19 #[simV a b c d] w fun e w' => ∃ x y z t, e = .returned (.tuple #[simV x y z t, .int .i64 0]) ∧ Sw 1 2147483648 x y z t α (-β) (0 - (α * r - -β * s)) (0 - (α * s + -β * r)) ∧ Gr w w' := by
  have m1 := mul_bd h.la (show (1 : Int).natAbs ≤ 1 from by decide)
  have la := h.la
  have lb := h.lb
  have A : Fl (bkA a b) α := by
    refine fl_quo1 ?_ h.sqF h.ua
    have t1 := fl_one.foMul h.a (by omega)
    have t2 := Fl.zero.foMul h.b (by omega)
    have := t1.foAdd t2 (by omega)
    rw [show 1 * α + 0 * β = α from by omega] at this
    exact this
  have B : Fl (bkB a b) (-β) := by
    refine fl_quo1 ?_ h.sqF (by have := h.ub; omega)
    have t1 := Fl.zero.foMul h.a (by omega)
    have t2 := fl_one.foMul h.b (by omega)
    have := t1.foSub t2 (by omega)
    rw [show 0 * α - 1 * β = -β from by omega] at this
    exact this
  obtain ⟨t1, t2⟩ := tRe_fl (A := 1) (B := 1073741824) A B hc hd (by omega) (by omega) lr ls (by decide)
  obtain ⟨t3, t4⟩ := tIm_fl (A := 1) (B := 1073741824) A B hc hd (by omega) (by omega) lr ls (by decide)
  have ok : backOK a b c d = true := by
    unfold backOK
    have bd : ∀ x, fin x → bdd x = true := fun x hx => by unfold bdd; simp; exact hx.2
    rw [bd _ h.sqF.1, bd _ hc.1, bd _ hd.1]
    have : zeB (Proofs.Ytmjfphidcnjklaa.sqF a b) = false := by
      unfold zeB
      rw [show double.order (Proofs.Ytmjfphidcnjklaa.sqF a b) 0 = some (compare (1 : Int) 0) from h.sqF.order Fl.zero]
      decide
    rw [this]
    rfl
  refine (back_yes h.a.v h.b.v hc.v hd.v ok w).mono ?_
  rintro e w' ⟨x, y, z, t, rfl, g1, g2, g3, g4, g⟩
  exact ⟨x, y, z, t, rfl, ⟨g1.fl A, g2.fl B, g3.fl (Fl.zero.foSub t1 (by omega)), g4.fl (Fl.zero.foSub t3 (by omega)), by omega, by omega, by omega, by omega⟩, g⟩
end Go.Proofs.Ytmjfphidcnjklaa
