/- Whole numbers through the program's operations: products and sums of complex numbers whose parts are whole. -/
import Derived.Test.YtmjfphidcnjklaaM1
import Derived.Test.YtmjfphidcnjklaaWh
set_option linter.unusedSimpArgs false
namespace Go.Proofs.Ytmjfphidcnjklaa
open Go.RowKit Go.Sort Ieee

theorem fo_fl {op : BinOp} {a b c : Nat} {n : Int} (h : floatBits op .f64 a b = some c) (k : Fl c n) : Fl (fo op a b) n := by unfold fo; rw [h]; exact k
theorem Fl.foAdd {a b : Nat} {m n : Int} (ha : Fl a m) (hb : Fl b n) (h : (m + n).natAbs ≤ 9007199254740992) : Fl (fo .add a b) (m + n) := by
  obtain ⟨c, h1, h2⟩ := ha.add hb h; exact fo_fl h1 h2
theorem Fl.foSub {a b : Nat} {m n : Int} (ha : Fl a m) (hb : Fl b n) (h : (m - n).natAbs ≤ 9007199254740992) : Fl (fo .sub a b) (m - n) := by
  obtain ⟨c, h1, h2⟩ := ha.sub hb h; exact fo_fl h1 h2
theorem Fl.foMul {a b : Nat} {m n : Int} (ha : Fl a m) (hb : Fl b n) (h : (m * n).natAbs ≤ 9007199254740992) : Fl (fo .mul a b) (m * n) := by
  obtain ⟨c, h1, h2⟩ := ha.mul hb h; exact fo_fl h1 h2
theorem V.fl {r X : Nat} {n : Int} (h : V r X) (k : Fl X n) : Fl r n := by rw [h.eq (fin_num k.1)]; exact k
theorem Fl.v {a : Nat} {n : Int} (h : Fl a n) : V a a := V.refl h.1.1
theorem mul_bd {m n : Int} {A B : Nat} (h1 : m.natAbs ≤ A) (h2 : n.natAbs ≤ B) : (m * n).natAbs ≤ A * B := by rw [Int.natAbs_mul]; exact Nat.mul_le_mul h1 h2
theorem tRe_fl {P Q U W A B : Nat} {p q u v : Int} (hp : Fl P p) (hq : Fl Q q) (hu : Fl U u) (hv : Fl W v) (b1 : p.natAbs ≤ A) (b2 : q.natAbs ≤ A) (b3 : u.natAbs ≤ B) (b4 : v.natAbs ≤ B) (h : 2 * (A * B) ≤ 9007199254740992) :
    Fl (tRe P Q U W) (p * u - q * v) ∧ (p * u - q * v).natAbs ≤ 2 * (A * B) := by
  have m1 := mul_bd b1 b3
  have m2 := mul_bd b2 b4
  exact ⟨(hp.foMul hu (by omega)).foSub (hq.foMul hv (by omega)) (by omega), by omega⟩
theorem tIm_fl {P Q U W A B : Nat} {p q u v : Int} (hp : Fl P p) (hq : Fl Q q) (hu : Fl U u) (hv : Fl W v) (b1 : p.natAbs ≤ A) (b2 : q.natAbs ≤ A) (b3 : u.natAbs ≤ B) (b4 : v.natAbs ≤ B) (h : 2 * (A * B) ≤ 9007199254740992) :
    Fl (tIm P Q U W) (p * v + q * u) ∧ (p * v + q * u).natAbs ≤ 2 * (A * B) := by
  have m1 := mul_bd b1 b4
  have m2 := mul_bd b2 b3
  exact ⟨(hp.foMul hv (by omega)).foAdd (hq.foMul hu (by omega)) (by omega), by omega⟩
theorem fl_ord {a b : Nat} {m : Int} (ha : Fl a m) (hb : Fl b m) : FloatKind.f64.format.order a b = some .eq := by
  have : FloatKind.f64.format.order a b = some (compare m m) := ha.order hb
  rw [this, cmp_eq rfl]
theorem fl_alB {a b : Nat} {m : Int} (ha : Fl a m) (hb : Fl b m) : alB a b = true := by
  unfold alB
  rw [show double.order a b = some .eq from fl_ord ha hb]; rfl

/-! ### Contracts -/
/-- A similarity whose parts are whole, of a size of at most A and of at most B. -/
structure Sw (A B a b c d : Nat) (p q r s : Int) : Prop where
  a : Fl a p
  b : Fl b q
  c : Fl c r
  d : Fl d s
  la : p.natAbs ≤ A
  lb : q.natAbs ≤ A
  lc : r.natAbs ≤ B
  ld : s.natAbs ≤ B
theorem apply_whole {A B C a b c d u v : Nat} {p q r s x y : Int} (h : Sw A B a b c d p q r s) (hu : Fl u x) (hv : Fl v y) (lx : x.natAbs ≤ C) (ly : y.natAbs ≤ C) (hb : 2 * (A * C) + B ≤ 9007199254740992) (w : World) :
    Calls Try.prog 13 #[simV a b c d, .complex .f64 u v] w fun e w' => ∃ k l, e = .returned (.complex .f64 k l) ∧ (Fl k (p * x - q * y + r) ∧ Fl l (p * y + q * x + s)) ∧ Gr w w' := by
  obtain ⟨t1, t2⟩ := tRe_fl h.a h.b hu hv h.la h.lb lx ly (by omega)
  obtain ⟨t3, t4⟩ := tIm_fl h.a h.b hu hv h.la h.lb lx ly (by omega)
  have lc := h.lc
  have ld := h.ld
  refine (apply_any h.a.v h.b.v h.c.v h.d.v hu.v hv.v w).mono ?_
  rintro e w' ⟨k, l, rfl, h1, h2, g⟩
  exact ⟨k, l, rfl, ⟨h1.fl (t1.foAdd h.c (by omega)), h2.fl (t3.foAdd h.d (by omega))⟩, g⟩
theorem then_whole {A B A2 B2 a b c d a2 b2 c2 d2 : Nat} {p q r s p2 q2 r2 s2 : Int} (h : Sw A B a b c d p q r s) (k : Sw A2 B2 a2 b2 c2 d2 p2 q2 r2 s2) (h1 : 2 * (A2 * A) ≤ 9007199254740992) (h2 : 2 * (A2 * B) + B2 ≤ 9007199254740992) (w : World) :
    Calls Try.prog 17 #[simV a b c d, simV a2 b2 c2 d2] w fun e w' => ∃ x y z t, e = .returned (simV x y z t) ∧ Sw (2 * (A2 * A)) (2 * (A2 * B) + B2) x y z t (p2 * p - q2 * q) (p2 * q + q2 * p) (p2 * r - q2 * s + r2) (p2 * s + q2 * r + s2) ∧ Gr w w' := by
  obtain ⟨t1, t2⟩ := tRe_fl k.a k.b h.a h.b k.la k.lb h.la h.lb h1
  obtain ⟨t3, t4⟩ := tIm_fl k.a k.b h.a h.b k.la k.lb h.la h.lb h1
  obtain ⟨t5, t6⟩ := tRe_fl k.a k.b h.c h.d k.la k.lb h.lc h.ld (by omega)
  obtain ⟨t7, t8⟩ := tIm_fl k.a k.b h.c h.d k.la k.lb h.lc h.ld (by omega)
  have lc := k.lc
  have ld := k.ld
  refine (then_any h.a.v h.b.v h.c.v h.d.v k.a.v k.b.v k.c.v k.d.v w).mono ?_
  rintro e w' ⟨x, y, z, t, rfl, g1, g2, g3, g4, g⟩
  exact ⟨x, y, z, t, rfl, ⟨g1.fl t1, g2.fl t3, g3.fl (t5.foAdd k.c (by omega)), g4.fl (t7.foAdd k.d (by omega)), t2, t4, by omega, by omega⟩, g⟩
theorem same_whole {A B A2 B2 a b c d a2 b2 c2 d2 : Nat} {p q r s : Int} (h : Sw A B a b c d p q r s) (k : Sw A2 B2 a2 b2 c2 d2 p q r s) (w : World) :
    Calls Try.prog 22 #[simV a b c d, simV a2 b2 c2 d2] w fun e w' => e = .returned (.bool true) ∧ Gr w w' := by
  have := same_any ⟨h.a.1.1, h.b.1.1, h.c.1.1, h.d.1.1⟩ ⟨k.a.1.1, k.b.1.1, k.c.1.1, k.d.1.1⟩ w
  rw [fl_alB h.a k.a, fl_alB h.b k.b, fl_alB h.c k.c, fl_alB h.d k.d] at this
  exact this
theorem fl_one : Fl 4607182418800017408 1 := by
  have := Fl.ofInt (n := 1) (by decide)
  rwa [show floatOfInt .f64 1 = 4607182418800017408 from by decide] at this
theorem sw_unit : Sw 1 0 4607182418800017408 0 0 0 1 0 0 0 := ⟨fl_one, Fl.zero, Fl.zero, Fl.zero, by decide, by decide, by decide, by decide⟩
theorem rem_bd (n : Int) : (n.tmod 65537).natAbs ≤ 65536 := by
  rw [Int.natAbs_tmod]
  have := Nat.mod_lt n.natAbs (show 0 < (65537 : Int).natAbs from by decide)
  have e : (65537 : Int).natAbs = 65537 := rfl
  omega
set_option maxHeartbeats 400000 in
theorem small_any (n : Int) (w : World) : Calls Try.prog 36 #[.int .i32 n] w fun e w' => e = .returned (.float .f64 (floatOfInt .f64 (n.tmod 65537))) ∧ w' = w := by
  go_enter Try.func36, Try.ntmps36
  go_wp2
  go_ret
  exact ⟨rfl, rfl⟩
/-- A whole number of a size of at most 2^16, as a word. -/
def smF (n : Int) : Nat := floatOfInt .f64 (n.tmod 65537)
theorem sm_fl (n : Int) : Fl (smF n) (n.tmod 65537) := Fl.ofInt (by have := rem_bd n; omega)
theorem sw_sm (a b c d : Int) : Sw 65536 65536 (smF a) (smF b) (smF c) (smF d) (a.tmod 65537) (b.tmod 65537) (c.tmod 65537) (d.tmod 65537) := ⟨sm_fl a, sm_fl b, sm_fl c, sm_fl d, rem_bd a, rem_bd b, rem_bd c, rem_bd d⟩
theorem small_gr (n : Int) (w : World) : Calls Try.prog 36 #[.int .i32 n] w fun e w' => e = .returned (.float .f64 (smF n)) ∧ Gr w w' := (small_any n w).mono fun _ _ ⟨h1, h2⟩ => ⟨h1, h2 ▸ Gr.refl _⟩
set_option maxRecDepth 20000 in
set_option maxHeartbeats 1600000 in
theorem whole_any (a b c d : Int) (w : World) :
    Calls Try.prog 35 #[.agg #[.int .i32 a, .int .i32 b, .int .i32 c, .int .i32 d]] w fun e w' => e = .returned (simV (smF a) (smF b) (smF c) (smF d)) ∧ Gr w w' := by
  obtain ⟨kM, kR, g⟩ := two_new w 74 28 #[.int .i32 a, .int .i32 b, .int .i32 c, .int .i32 d] #[.complex .f64 0 0, .complex .f64 0 0]
  replace g := hid' g
  have sc := run_store_c
  go_enter Try.func35, Try.ntmps35
  go_wp2_with fail
  generalize (w.alloc (.cells #[.int .i32 a, .int .i32 b, .int .i32 c, .int .i32 d] 74)).alloc (.cells #[.complex .f64 0 0, .complex .f64 0 0] 28) = W1 at *
  obtain ⟨⟨m0, m1, m2, m3⟩, _⟩ := kM.four
  go_region_held3 (S4 ⟨w.heap.size, 0, none⟩ ⟨w.heap.size, 1, none⟩ ⟨w.heap.size, 2, none⟩ ⟨w.heap.size, 3, none⟩ (.int .i32 a) (.int .i32 b) (.int .i32 c) (.int .i32 d) w)
    (first
      | exact ⟨m0, m1, m2, m3, g.out.drew⟩
      | exact S4.call (by assumption) (by assumption)
      | assumption
      | (refine S4.far (S4.far ?_ ?_ ?_ ?_ ?_ ?_ _) ?_ ?_ ?_ ?_ ?_ _ <;> first | assumption | (simp only []; omega)))
    (first
      | (go_at_call_of 36 d; refine (small_gr d _).mono ?_; rintro e w4 ⟨rfl, g4⟩; replace kR := kR.gr g4; obtain ⟨q0, q1, q2, q3⟩ := kR.two)
      | (go_at_call_of 36 c; refine (small_gr c _).mono ?_; rintro e w3 ⟨rfl, g3⟩; replace kR := kR.gr g3)
      | (go_at_call_of 36 b; refine (small_gr b _).mono ?_; rintro e w2 ⟨rfl, g2⟩; replace kR := kR.gr g2)
      | (go_at_call_of 36 a; refine (small_gr a _).mono ?_; rintro e w1 ⟨rfl, g1⟩; replace kR := (kR.drewN 1).gr g1))
  all_goals
    rename_i hH
    have gg := hH.2.2.2.2
    go_wp2
    refine bodyPost_ret (v := simV (smF a) (smF b) (smF c) (smF d)) (by simp [results, Try.results35, go_sem, q0, q1]) rfl ⟨rfl, gg⟩
end Go.Proofs.Ytmjfphidcnjklaa
