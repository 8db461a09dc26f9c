/- Distances on both sides. -/
import Derived.Test.YtgdmbcfjjdngdaaDoorF1
import Derived.Test.YtgdmbcfjjdngdaaDoorDs
import Derived.Laws.Externs
import Derived.Laws.BitsAllLaws
set_option linter.unusedSimpArgs false
set_option linter.unusedVariables false
namespace Go.Proofs.YtgdmbcfjjdngdaaDoor
open Go.RowKit Go.Sort Ieee

theorem near_ok (m : Nat) (p : Int) : double.nearest false m p ≤ 9218868437227405312 := by
  unfold Format.nearest
  split
  · unfold Format.word; simp
  · unfold Format.word
    rw [dbl_inf]
    simp only [Bool.false_eq_true, if_false]
    exact Nat.min_le_right _ _
theorem read_pos {b : Nat} (h : b ≤ 9218868437227405312) : double.read b = .infinity false ∨ ∃ m k, double.read b = .number false m k := by
  rcases Nat.lt_or_eq_of_le h with h | h
  · have hf : fin b := ⟨by omega, by omega⟩
    obtain ⟨m, k, e, _⟩ := read_fin hf
    rw [decide_eq_false (by omega)] at e
    exact .inr ⟨m, _, e⟩
  · subst h; exact .inl (read_inf false)
theorem root_ok {a : Nat} (ha : a ≤ 9218868437227405312) : ∃ r, FloatKind.f64.format.sqrt a = some r ∧ r ≤ 9218868437227405312 := by
  have hw : double.word false double.infRung ≤ 9218868437227405312 := by rw [dbl_inf]; decide
  show ∃ r, Format.sqrt double a = some r ∧ _
  unfold Format.sqrt
  rcases read_pos ha with e | ⟨m, i, e⟩ <;> rw [e]
  · exact ⟨_, rfl, hw⟩
  · simp only [Datum.root]
    split
    · exact ⟨_, rfl, near_ok _ _⟩
    · rw [if_neg (by decide)]
      exact ⟨_, rfl, near_ok _ _⟩
/-- The square of a distance, and the distance as a word. -/
def sqT (dx dy : Int) : Nat := dx.natAbs * dx.natAbs + dy.natAbs * dy.natAbs
def dsF (dx dy : Int) : Nat := (FloatKind.f64.format.sqrt (floatOfInt .f64 (sqT dx dy : Int))).getD 0
theorem foi_pos (n : Nat) : floatOfInt .f64 (n : Int) ≤ 9218868437227405312 := by
  show double.nearest (decide ((n : Int) < 0)) (n : Int).natAbs 0 ≤ _
  rw [decide_eq_false (by omega)]
  exact near_ok _ _
theorem ds_root (dx dy : Int) : FloatKind.f64.format.sqrt (floatOfInt .f64 (sqT dx dy : Int)) = some (dsF dx dy) ∧ dsF dx dy ≤ 9218868437227405312 := by
  obtain ⟨r, h, hr⟩ := root_ok (foi_pos (sqT dx dy))
  unfold dsF
  rw [h]
  exact ⟨rfl, hr⟩
theorem run55 {x r : Nat} (h : FloatKind.f64.format.sqrt x = some r) (w : World) : (callFunc 55 #[.float .f64 x]).run Tryd.prog w = .ok (.value (.float .f64 r)) w := by
  rw [run_callFunc_extern Tryd.func55 (by kernel_rfl) (by kernel_rfl) (by kernel_rfl) (e := Extern.MathSqrt.sqrt) (by kernel_rfl)]
  have e : Extern.MathSqrt.sqrt #[.float .f64 x] = pure (.float .f64 r) := by
    show (match FloatKind.f64.format.sqrt x with
      | some r => pure (.float .f64 r)
      | none => do pure (.float .f64 (← choose (.nanBits .f64 x x))) : Sem Value) = _
    rw [h]
  rw [e]
  rfl
set_option maxHeartbeats 400000 in
theorem sqrt_any {x r : Nat} (h : FloatKind.f64.format.sqrt x = some r) (w : World) : Calls Tryd.prog 31 #[.float .f64 x] w fun e w' => e = .returned (.float .f64 r) ∧ w' = w := by
  have H := run55 h
  go_enter Tryd.func31, Tryd.ntmps31
  go_wp2_with (simp only [H])
  go_ret
  exact ⟨rfl, rfl⟩
theorem run40 (x y : Nat) (w : World) : (callFunc 40 #[.int .u64 (x : Int), .int .u64 (y : Int), .int .u64 0]).run Tryd.prog w =
    .ok (.value (.tuple #[.int .u64 (((x + y) % 18446744073709551616 : Nat) : Int), .int .u64 (((x + y) / 18446744073709551616 : Nat) : Int)])) w := by
  rw [run_callFunc_extern Tryd.func40 (by kernel_rfl) (by kernel_rfl) (by kernel_rfl) (e := add64Entry) (by kernel_rfl)]
  rw [run_add64 (P := Tryd.prog) (x : Int) (y : Int) 0 (by omega) (by omega) (by omega) (by omega) w]
  have e1 : ((x : Int) + (y : Int) + 0) % 18446744073709551616 = (((x + y) % 18446744073709551616 : Nat) : Int) := by omega
  have e2 : ((x : Int) + (y : Int) + 0) / 18446744073709551616 = (((x + y) / 18446744073709551616 : Nat) : Int) := by omega
  rw [e1, e2]
  rfl
/-- A difference of two 32-bit numbers. -/
def in33 (d : Int) : Prop := -4294967296 < d ∧ d < 4294967296
theorem size_any {d : Int} (h : in33 d) (w : World) : Calls Tryd.prog 20 #[.int .i64 d] w fun e w' => e = .returned (.int .u64 (d.natAbs : Int)) ∧ w' = w := by
  have h1 : wrap64 (-d) = -d := by unfold in33 at h; unfold wrap64; omega
  have h2 : wrap64 (-d) ≤ d → IntKind.u64.wrap d = (d.natAbs : Int) := fun k => by unfold in33 at h; rw [IntKind.wrap_u64]; omega
  have h3 : d < wrap64 (-d) → IntKind.u64.wrap (wrap64 (-d)) = (d.natAbs : Int) := fun k => by unfold in33 at h; rw [IntKind.wrap_u64]; omega
  have H2 := hid0 h2
  have H3 := hid0 h3
  clear h1 h2 h3 h
  go_enter Tryd.func20, Tryd.ntmps20
  go_wp2
  · skip
    go_ret
    exact ⟨congrArg (fun z => Ending.returned (.int .u64 z)) (H3.out h), rfl⟩
  · skip
    go_ret
    exact ⟨congrArg (fun z => Ending.returned (.int .u64 z)) (H2.out h), rfl⟩
theorem rsize_any {d : Int} (h : in33 d) (w : World) : Calls Tryd.prog 23 #[.int .i64 d] w fun e w' => e = .returned (.int .u64 (d.natAbs : Int)) ∧ w' = w := by
  by_cases c : d < 0
  · have h1 : wrap64 (-d) = -d := by unfold in33 at h; unfold wrap64; omega
    have h3 : IntKind.u64.wrap (wrap64 (-d)) = (d.natAbs : Int) := by unfold in33 at h; rw [h1, IntKind.wrap_u64]; omega
    have H3 := hid0 h3
    clear h1 h3 h
    go_enter Tryd.func23, Tryd.ntmps23
    go_wp2
    go_ret
    exact ⟨congrArg (fun z => Ending.returned (.int .u64 z)) H3.out, rfl⟩
  · have h3 : IntKind.u64.wrap d = (d.natAbs : Int) := by unfold in33 at h; rw [IntKind.wrap_u64]; omega
    have H3 := hid0 h3
    clear h3 h
    go_enter Tryd.func23, Tryd.ntmps23
    go_wp2
    go_ret
    exact ⟨congrArg (fun z => Ending.returned (.int .u64 z)) H3.out, rfl⟩
theorem two_pts (x y u v : Int) (w : World) : Gr w ((w.alloc (.cells #[.int .i32 x, .int .i32 y] 24)).alloc (.cells #[.int .i32 u, .int .i32 v] 24)) ∧
    Bk ((w.alloc (.cells #[.int .i32 x, .int .i32 y] 24)).alloc (.cells #[.int .i32 u, .int .i32 v] 24)) w.heap.size 24 [.int .i32 x, .int .i32 y] ∧
    Bk ((w.alloc (.cells #[.int .i32 x, .int .i32 y] 24)).alloc (.cells #[.int .i32 u, .int .i32 v] 24)) (w.heap.size + 1) 24 [.int .i32 u, .int .i32 v] := by
  refine ⟨((Gr.refl w).alloc _).alloc _, (Bk.new w 24 [.int .i32 x, .int .i32 y]).alloc _, ?_⟩
  have := Bk.new (w.alloc (.cells #[.int .i32 x, .int .i32 y] 24)) 24 [.int .i32 u, .int .i32 v]
  rwa [World.size_alloc] at this
theorem conv64 {x : Int} (h : in32 x) : IntKind.i64.wrap x = x := by unfold in32 at h; rw [IntKind.wrap_i64]; omega
theorem sub33 {x u : Int} (hx : in32 x) (hu : in32 u) : in33 (u - x) ∧ wrap64 (u - x) = u - x := by unfold in32 at hx hu; unfold in33 wrap64; omega
set_option maxHeartbeats 1000000 in
theorem between_any {x y u v : Int} (hx : in32 x) (hy : in32 y) (hu : in32 u) (hv : in32 v) (w : World) :
    Calls Tryd.prog 19 #[pt x y, pt u v] w fun e w' => e = .returned (.tuple #[.int .i64 (u - x), .int .i64 (v - y)]) ∧ Gr w w' := by
  obtain ⟨g, k1, k2⟩ := two_pts x y u v w
  have cx := conv64 hx
  have cy := conv64 hy
  have cu := conv64 hu
  have cv := conv64 hv
  have dx := (sub33 hx hu).2
  have dy := (sub33 hy hv).2
  have G := hid0 g
  have DX := hid0 dx
  have DY := hid0 dy
  clear hx hy hu hv g dx dy
  go_enter Tryd.func19, Tryd.ntmps19
  go_upto_region 1 with fail
  generalize w.heap.size + 1 = b2 at *
  generalize w.heap.size = b1 at *
  generalize World.alloc _ _ = W at *
  have p0 := cell_gr k1.two.1
  have p1 := cell_gr k1.two.2
  have q0 := cell_gr k2.two.1
  have q1 := cell_gr k2.two.2
  refine wp_region_quiet_grown (by kernel_rfl) (by kernel_rfl) ?_
  repeat (go_big_quiet_step (fail))
  refine wpQuiet_nil ?_
  intro _ hw'
  obtain ⟨⟨nq, osq⟩, hw''⟩ := hw'
  subst hw''
  have gg := hid0 (G.out.trans ⟨nq, osq, rfl⟩)
  go_wp2
  go_ret2
  exact ⟨by show Ending.returned (.tuple #[.int .i64 (wrap64 (u - x)), .int .i64 (wrap64 (v - y))]) = _; rw [DX.out, DY.out], gg.out⟩
theorem sq_lt {d : Int} (h : in33 d) : d.natAbs * d.natAbs < 18446744073709551616 := by
  unfold in33 at h
  have : d.natAbs ≤ 4294967295 := by omega
  have := Nat.mul_le_mul this this
  omega
theorem half_bits {S : Nat} (h : S < 18446744073709551616) : bits .or .u64 (bits .or .u64 9223372036854775808 ((S : Int) / 2)) (bits .and .u64 (S : Int) 1) = ((halfA S : Nat) : Int) := by
  have e1 : ((S : Int) / 2) = ((S / 2 : Nat) : Int) := by omega
  have e2 : bits .and .u64 (S : Int) 1 = ((S % 2 : Nat) : Int) := by
    have := u64_and_nat S 1 h (by decide)
    rw [Nat.and_one_is_mod] at this
    exact this
  have e3 : bits .or .u64 9223372036854775808 ((S / 2 : Nat) : Int) = ((9223372036854775808 ||| S / 2 : Nat) : Int) := u64_or_nat 9223372036854775808 (S / 2) (by decide) (by omega)
  have hl : 9223372036854775808 ||| S / 2 < 18446744073709551616 := by rw [or_high _ (by omega)]; omega
  rw [e1, e3, e2, u64_or_nat _ _ hl (by omega)]
  rfl
set_option maxHeartbeats 2000000 in
theorem distance_any {x y u v : Int} (hx : in32 x) (hy : in32 y) (hu : in32 u) (hv : in32 v) (w : World) :
    Calls Tryd.prog 18 #[pt x y, pt u v] w fun e w' => e = .returned (.float .f64 (dsF (u - x) (v - y))) ∧ Gr w w' := by
  obtain ⟨g, k1, k2⟩ := two_pts x y u v w
  have BT : Hid (∀ W, Calls Tryd.prog 19 #[pt x y, pt u v] W fun e w' => e = .returned (.tuple #[.int .i64 (u - x), .int .i64 (v - y)]) ∧ Gr W w') := fun W => between_any hx hy hu hv W
  have h1 := (sub33 hx hu).1
  have h2 := (sub33 hy hv).1
  obtain ⟨hr, _⟩ := ds_root (u - x) (v - y)
  unfold sqT at hr
  generalize dsF (u - x) (v - y) = R at *
  generalize u - x = a at *
  generalize v - y = c at *
  obtain ⟨sz, hsz⟩ : ∃ sz : Int → Nat, ∀ d, sz d = d.natAbs := ⟨Int.natAbs, fun _ => rfl⟩
  have SZ : Hid (∀ d W, (d = a ∨ d = c) → Calls Tryd.prog 20 #[.int .i64 d] W fun e w' => e = .returned (.int .u64 (sz d : Int)) ∧ w' = W) := fun d W hd => by
    rw [hsz]
    exact size_any (by rcases hd with rfl | rfl; exact h1; exact h2) W
  have l1 := sq_lt h1
  have l2 := sq_lt h2
  rw [← hsz] at hr l1 l2
  rw [← hsz] at hr
  clear hsz
  obtain ⟨X, hX⟩ : ∃ X, X = sz a := ⟨_, rfl⟩
  obtain ⟨Y, hY⟩ : ∃ Y, Y = sz c := ⟨_, rfl⟩
  rw [← hX, ← hY] at hr
  rw [← hX] at l1
  rw [← hY] at l2
  have m1 : IntKind.u64.wrap ((X : Int) * (X : Int)) = ((X * X : Nat) : Int) := by rw [IntKind.wrap_u64, ← Int.natCast_mul]; omega
  have m2 : IntKind.u64.wrap ((Y : Int) * (Y : Int)) = ((Y * Y : Nat) : Int) := by rw [IntKind.wrap_u64, ← Int.natCast_mul]; omega
  rw [hX] at m1
  rw [hY] at m2
  rw [← hX] at m1
  rw [← hY] at m2
  generalize X * X = P at *
  generalize Y * Y = Q at *
  subst hX hY
  have G := hid0 g
  clear h1 h2 hx hy hu hv g
  have hr0 : Hid ((P + Q) / 18446744073709551616 = 0 → FloatKind.f64.format.sqrt (floatOfInt .f64 (((P + Q) % 18446744073709551616 : Nat) : Int)) = some R) := fun h => by
    rw [show (P + Q) % 18446744073709551616 = P + Q from by omega]; exact hr
  have hr1 : Hid ((P + Q) / 18446744073709551616 ≠ 0 → floatBits .mul .f64 4611686018427387904 (floatOfInt .f64 (halfA ((P + Q) % 18446744073709551616) : Int)) = some (floatOfInt .f64 ((P + Q : Nat) : Int))) := fun h => by
    rw [half_word (Nat.mod_lt _ (by decide)), show 18446744073709551616 + (P + Q) % 18446744073709551616 = P + Q from by omega]
  have hS : Hid ((P + Q) % 18446744073709551616 < 18446744073709551616) := Nat.mod_lt _ (by decide)
  have hC : Hid ((P + Q) / 18446744073709551616 ≤ 1) := by show _ ≤ _; omega
  have HR := hid0 hr
  have R40 : Hid (∀ W, (callFunc 40 #[.int .u64 (P : Int), .int .u64 (Q : Int), .int .u64 0]).run Tryd.prog W = .ok (.value (.tuple #[.int .u64 (((P + Q) % 18446744073709551616 : Nat) : Int), .int .u64 (((P + Q) / 18446744073709551616 : Nat) : Int)])) W) := fun W => run40 P Q W
  generalize (P + Q) % 18446744073709551616 = S at *
  generalize (P + Q) / 18446744073709551616 = C at *
  clear hr l1 l2
  go_enter Tryd.func18, Tryd.ntmps18
  go_upto_region 1 with fail
  generalize w.heap.size + 1 = b2 at *
  generalize w.heap.size = b1 at *
  generalize World.alloc _ _ = W at *
  obtain ⟨p0, p1⟩ := k1.two
  obtain ⟨q0, q1⟩ := k2.two
  go_upto_region 2 with (go_at_call 19; refine (BT.out _).mono ?_; rintro e w1 ⟨rfl, g1⟩)
  have G1 := hid0 (G.out.trans g1)
  have R40' := R40.out
  clear g1 G k1 k2 p0 p1 q0 q1
  go_upto_region 3 with (first
    | simp only [R40']
    | (go_at_call 20; refine (SZ.out _ _ (by first | exact .inl rfl | exact .inr rfl)).mono ?_; rintro e w2 ⟨rfl, hw⟩; cases hw))
  clear R40 R40' SZ BT m1 m2
  by_cases hc : C = 0
  · have d : ((C : Int) == 0) = true := by simp [hc]
    have SQ := hid0 (fun W => sqrt_any (hr0.out hc) W)
    clear hr0 hr1 HR hS hC hc
    go_wp2_with (go_at_call 31; refine (SQ.out _).mono ?_; rintro e w2 ⟨rfl, hw⟩; cases hw)
    go_ret
    exact ⟨rfl, G1.out⟩
  · have d : ((C : Int) == 0) = false := by simp [hc]
    have SQ := hid0 (fun W => sqrt_any HR.out W)
    have HM := hr1.out hc
    have eB := half_bits hS.out
    rw [← eB] at HM
    generalize floatOfInt .f64 ((P + Q : Nat) : Int) = Z at *
    have HW := fun W => run_float_arith (P := Tryd.prog) W .mul 29 .f64 _ _ _ HM
    clear hr0 hr1 HR hC hc HM eB
    go_wp2_with (go_at_call 31; refine (SQ.out _).mono ?_; rintro e w2 ⟨rfl, hw⟩; cases hw)
    go_ret
    exact ⟨rfl, G1.out⟩
end Go.Proofs.YtgdmbcfjjdngdaaDoor
