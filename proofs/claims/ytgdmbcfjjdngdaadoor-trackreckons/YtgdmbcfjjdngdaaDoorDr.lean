/- The document's own distance. -/
import Derived.Test.YtgdmbcfjjdngdaaDoorDw
set_option linter.unusedSimpArgs false
set_option linter.unusedVariables false
namespace Go.Proofs.YtgdmbcfjjdngdaaDoor
open Go.RowKit Go.Sort Ieee

theorem rnear0 (S : Nat) (w : World) : Calls Tryd.prog 32 #[.int .u64 0, .int .u64 (S : Int)] w fun e w' => e = .returned (.float .f64 (floatOfInt .f64 (S : Int))) ∧ w' = w := by
  go_enter Tryd.func32, Tryd.ntmps32
  go_wp2
  go_ret
  exact ⟨rfl, rfl⟩
theorem and3 (S : Nat) (h : S < 18446744073709551616) : bits .and .u64 (S : Int) 3 = ((S % 4 : Nat) : Int) := by
  have := u64_and_nat S 3 h (by decide)
  rw [show (3 : Nat) = 2 ^ 2 - 1 from by decide, Nat.and_two_pow_sub_one_eq_mod] at this
  exact this
theorem quart_bits {S : Nat} (h : S < 18446744073709551616) : bits .or .u64 4611686018427387904 ((S : Int) / 4) = ((4611686018427387904 ||| S / 4 : Nat) : Int) ∧ bits .or .u64 ((4611686018427387904 ||| S / 4 : Nat) : Int) 1 = (((4611686018427387904 ||| S / 4) ||| 1 : Nat) : Int) := by
  have e1 : ((S : Int) / 4) = ((S / 4 : Nat) : Int) := by omega
  have hl : 4611686018427387904 ||| S / 4 < 18446744073709551616 := by rw [or_quarter _ (by omega)]; omega
  rw [e1]
  exact ⟨u64_or_nat 4611686018427387904 (S / 4) (by decide) (by omega), u64_or_nat _ 1 hl (by decide)⟩
theorem rnear1 (S : Nat) (h : S < 18446744073709551616) (w : World) : Calls Tryd.prog 32 #[.int .u64 1, .int .u64 (S : Int)] w fun e w' => e = .returned (.float .f64 (floatOfInt .f64 ((18446744073709551616 + S : Nat) : Int))) ∧ w' = w := by
  have QW := quart_word h
  have a3 := and3 S h
  obtain ⟨b1, b2⟩ := quart_bits h
  unfold quartB at QW
  generalize floatOfInt .f64 ((18446744073709551616 + S : Nat) : Int) = Z at *
  by_cases hc : S % 4 = 0
  · rw [if_pos hc] at QW
    rw [hc] at a3
    have HW := fun W => run_float_arith (P := Tryd.prog) W .mul 29 .f64 _ _ _ QW
    generalize 4611686018427387904 ||| S / 4 = B at *
    clear hc b2 QW h
    go_enter Tryd.func32, Tryd.ntmps32
    go_wp2
    go_ret
    exact ⟨rfl, rfl⟩
  · rw [if_neg hc] at QW
    have d : (((S % 4 : Nat) : Int) != 0) = true := by simp; omega
    generalize ((S % 4 : Nat) : Int) = t at *
    have HW := fun W => run_float_arith (P := Tryd.prog) W .mul 29 .f64 _ _ _ QW
    generalize (4611686018427387904 ||| S / 4) ||| 1 = D at *
    generalize 4611686018427387904 ||| S / 4 = B at *
    clear hc QW h
    go_enter Tryd.func32, Tryd.ntmps32
    go_wp2
    go_ret
    exact ⟨rfl, rfl⟩
theorem sqT_neg (x y u v : Int) : sqT (x - u) (y - v) = sqT (u - x) (v - y) := by
  unfold sqT
  rw [show (x - u).natAbs = (u - x).natAbs from by omega, show (y - v).natAbs = (v - y).natAbs from by omega]
set_option maxHeartbeats 2000000 in
theorem rdistance_any {x y u v : Int} (hx : in32 x) (hy : in32 y) (hu : in32 u) (hv : in32 v) (w : World) :
    Calls Tryd.prog 16 #[pt x y, pt u v] w fun e w' => e = .returned (.float .f64 (dsF (u - x) (v - y))) ∧ Gr w w' := by
  obtain ⟨g, k1, k2⟩ := two_pts x y u v w
  have cx := conv64 hx
  have cy := conv64 hy
  have cu := conv64 hu
  have cv := conv64 hv
  have h1 := sub33 hu hx
  have h2 := sub33 hv hy
  obtain ⟨hr, _⟩ := ds_root (u - x) (v - y)
  rw [← sqT_neg] at hr
  unfold sqT at hr
  generalize dsF (u - x) (v - y) = R at *
  obtain ⟨h1, d1⟩ := h1
  obtain ⟨h2, d2⟩ := h2
  obtain ⟨a, ha⟩ : ∃ a, a = x - u := ⟨_, rfl⟩
  obtain ⟨c, hc⟩ : ∃ c, c = y - v := ⟨_, rfl⟩
  rw [← ha] at h1 hr
  rw [← hc] at h2 hr
  have D1 : wrap64 (x - u) = a := by rw [ha]; exact d1
  have D2 : wrap64 (y - v) = c := by rw [hc]; exact d2
  clear d1 d2 ha hc
  obtain ⟨sz, hsz⟩ : ∃ sz : Int → Nat, ∀ d, sz d = d.natAbs := ⟨Int.natAbs, fun _ => rfl⟩
  have SZ : Hid (∀ d W, (d = a ∨ d = c) → Calls Tryd.prog 23 #[.int .i64 d] W fun e w' => e = .returned (.int .u64 (sz d : Int)) ∧ w' = W) := fun d W hd => by
    rw [hsz]
    exact rsize_any (by rcases hd with rfl | rfl; exact h1; exact h2) W
  have l1 := sq_lt h1
  have l2 := sq_lt h2
  rw [← hsz] at hr l1 l2
  rw [← hsz] at hr
  clear hsz
  have m1 : IntKind.u64.wrap ((sz a : Int) * (sz a : Int)) = ((sz a * sz a : Nat) : Int) := by rw [IntKind.wrap_u64, ← Int.natCast_mul]; omega
  have m2 : IntKind.u64.wrap ((sz c : Int) * (sz c : Int)) = ((sz c * sz c : Nat) : Int) := by rw [IntKind.wrap_u64, ← Int.natCast_mul]; omega
  generalize sz a * sz a = P at *
  generalize sz c * sz c = Q at *
  have G := hid0 g
  clear h1 h2 hx hy hu hv g
  have m3 : IntKind.u64.wrap ((P : Int) + (Q : Int)) = (((P + Q) % 18446744073709551616 : Nat) : Int) := by rw [IntKind.wrap_u64]; omega
  have m4 : (((P + Q) % 18446744073709551616 : Nat) : Int) < (P : Int) ↔ P + Q ≥ 18446744073709551616 := by omega
  have n0 : Hid (P + Q < 18446744073709551616 → ∀ W, Calls Tryd.prog 32 #[.int .u64 0, .int .u64 (((P + Q) % 18446744073709551616 : Nat) : Int)] W fun e w' => e = .returned (.float .f64 (floatOfInt .f64 ((P + Q : Nat) : Int))) ∧ w' = W) := fun h W => by
    have := rnear0 ((P + Q) % 18446744073709551616) W
    rwa [show floatOfInt .f64 (((P + Q) % 18446744073709551616 : Nat) : Int) = floatOfInt .f64 ((P + Q : Nat) : Int) from by rw [Nat.mod_eq_of_lt h]] at this
  have n1 : Hid (P + Q ≥ 18446744073709551616 → ∀ W, Calls Tryd.prog 32 #[.int .u64 1, .int .u64 (((P + Q) % 18446744073709551616 : Nat) : Int)] W fun e w' => e = .returned (.float .f64 (floatOfInt .f64 ((P + Q : Nat) : Int))) ∧ w' = W) := fun h W => by
    have := rnear1 ((P + Q) % 18446744073709551616) (Nat.mod_lt _ (by decide)) W
    rwa [show 18446744073709551616 + (P + Q) % 18446744073709551616 = P + Q from by omega] at this
  have SQ := hid0 (fun W => sqrt_any hr W)
  generalize (((P + Q) % 18446744073709551616 : Nat) : Int) = S at *
  generalize floatOfInt .f64 ((P + Q : Nat) : Int) = Z at *
  clear hr l1 l2
  by_cases hc : P + Q ≥ 18446744073709551616
  · have d : S < (P : Int) := m4.2 hc
    have NR := hid0 (n1.out hc)
    clear n0 n1 m4 hc
    go_enter Tryd.func16, Tryd.ntmps16
    go_upto_region 1 with fail
    generalize w.heap.size + 1 = b2 at *
    generalize w.heap.size = b1 at *
    generalize World.alloc _ _ = W at *
    obtain ⟨p0, p1⟩ := k1.two
    obtain ⟨q0, q1⟩ := k2.two
    clear k1 k2
    go_wp2_with (first
      | (go_at_call 23; refine (SZ.out _ _ (by first | exact .inl rfl | exact .inr rfl)).mono ?_; rintro e w2 ⟨rfl, hw⟩; cases hw)
      | (go_at_call 32; refine (NR.out _).mono ?_; rintro e w2 ⟨rfl, hw⟩; cases hw)
      | (go_at_call 31; refine (SQ.out _).mono ?_; rintro e w2 ⟨rfl, hw⟩; cases hw))
    go_ret
    exact ⟨rfl, G.out⟩
  · have d : ¬ S < (P : Int) := fun h => hc (m4.1 h)
    have NR := hid0 (n0.out (by omega))
    clear n0 n1 m4 hc
    go_enter Tryd.func16, Tryd.ntmps16
    go_upto_region 1 with fail
    generalize w.heap.size + 1 = b2 at *
    generalize w.heap.size = b1 at *
    generalize World.alloc _ _ = W at *
    obtain ⟨p0, p1⟩ := k1.two
    obtain ⟨q0, q1⟩ := k2.two
    clear k1 k2
    go_wp2_with (first
      | (go_at_call 23; refine (SZ.out _ _ (by first | exact .inl rfl | exact .inr rfl)).mono ?_; rintro e w2 ⟨rfl, hw⟩; cases hw)
      | (go_at_call 32; refine (NR.out _).mono ?_; rintro e w2 ⟨rfl, hw⟩; cases hw)
      | (go_at_call 31; refine (SQ.out _).mono ?_; rintro e w2 ⟨rfl, hw⟩; cases hw))
    go_ret
    exact ⟨rfl, G.out⟩
end Go.Proofs.YtgdmbcfjjdngdaaDoor
