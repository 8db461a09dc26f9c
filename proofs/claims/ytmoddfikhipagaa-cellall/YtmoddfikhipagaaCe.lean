/- Codes: the program's and the reference's. -/
import Derived.Test.YtmoddfikhipagaaCd
import Derived.Test.YtmoddfikhipagaaAe
set_option linter.unusedSimpArgs false
set_option linter.unusedVariables false
namespace Go.Proofs.Ytmoddfikhipagaa
open Go.RowKit Go.Sort

theorem u64_in {x : Nat} (h : x < 18446744073709551616) : IntKind.u64.wrap (x : Int) = (x : Int) := by rw [IntKind.wrap_u64]; omega
set_option maxHeartbeats 1000000 in
theorem raised_any (x : Int) (h : in32 x) (w : World) : Calls Try.prog 43 #[.int .i32 x] w fun e w' => e = .returned (.int .u32 ((x + 2147483648).toNat : Nat)) ∧ w' = w := by
  go_enter Try.func43, Try.ntmps43
  go_wp2
  go_ret
  refine ⟨congrArg (fun z => Ending.returned (.int .u32 z)) ?_, rfl⟩
  unfold in32 at h
  omega
set_option maxHeartbeats 1000000 in
theorem lowered_any (n : Nat) (h : n < 4294967296) (w : World) : Calls Try.prog 44 #[.int .u32 (n : Int)] w fun e w' => e = .returned (.int .i32 ((n : Int) - 2147483648)) ∧ w' = w := by
  go_enter Try.func44, Try.ntmps44
  go_wp2
  go_ret
  refine ⟨congrArg (fun z => Ending.returned (.int .i32 z)) ?_, rfl⟩
  simp only [IntKind.wrap_u32', wrap32]
  omega
theorem or_lt {a b : Nat} (ha : a < 18446744073709551616) (hb : b < 18446744073709551616) : a ||| b < 18446744073709551616 := Nat.or_lt_two_pow (n := 64) ha hb
theorem and_lt {a b : Nat} (ha : b < 18446744073709551616) : a &&& b < 18446744073709551616 := Nat.and_lt_two_pow (n := 64) _ ha

/-- One step of spread, as the walk has it. -/
theorem st_step {x m M : Nat} (P Mi : Int) (hP : P = ((2 ^ m : Nat) : Int)) (hMi : Mi = ((M : Nat) : Int)) (hx : x < 18446744073709551616) (hM : M < 18446744073709551616) :
    ∃ s a y : Nat, IntKind.u64.wrap ((x : Int) * P) = (s : Int) ∧ bits .or .u64 (x : Int) (s : Int) = (a : Int) ∧ bits .and .u64 (a : Int) Mi = (y : Int) ∧ y = stN m M x ∧ y < 18446744073709551616 := by
  refine ⟨x * 2 ^ m % 18446744073709551616, x ||| (x * 2 ^ m % 18446744073709551616), stN m M x, ?_, ?_, ?_, rfl, and_lt hM⟩
  · rw [IntKind.wrap_u64, hP, ← Int.natCast_mul]
    generalize x * 2 ^ m = z
    omega
  · exact u64_or_nat _ _ hx (Nat.mod_lt _ (by omega))
  · rw [hMi]; exact u64_and_nat _ _ (or_lt hx (Nat.mod_lt _ (by omega))) hM
set_option maxRecDepth 20000 in
set_option maxHeartbeats 4000000 in
theorem spread_any (n : Nat) (h : n < 4294967296) (w : World) : Calls Try.prog 42 #[.int .u32 (n : Int)] w fun e w' => e = .returned (.int .u64 (spN n : Nat)) ∧ w' = w := by
  have e0 := u64_in (x := n) (by omega)
  obtain ⟨s1, a1, x1, p1, q1, r1, y1, l1⟩ := st_step (x := n) (m := 16) (M := 281470681808895) 65536 281470681808895 (by decide) rfl (by omega) (by omega)
  obtain ⟨s2, a2, x2, p2, q2, r2, y2, l2⟩ := st_step (x := x1) (m := 8) (M := 71777214294589695) 256 71777214294589695 (by decide) rfl l1 (by omega)
  obtain ⟨s3, a3, x3, p3, q3, r3, y3, l3⟩ := st_step (x := x2) (m := 4) (M := 1085102592571150095) 16 1085102592571150095 (by decide) rfl l2 (by omega)
  obtain ⟨s4, a4, x4, p4, q4, r4, y4, l4⟩ := st_step (x := x3) (m := 2) (M := 3689348814741910323) 4 3689348814741910323 (by decide) rfl l3 (by omega)
  obtain ⟨s5, a5, x5, p5, q5, r5, y5, l5⟩ := st_step (x := x4) (m := 1) (M := 6148914691236517205) 2 6148914691236517205 (by decide) rfl l4 (by omega)
  have hE : spN n = x5 := by rw [y5, y4, y3, y2, y1]; rfl
  rw [hE]
  clear hE y1 y2 y3 y4 y5 l1 l2 l3 l4 l5 h
  go_enter Try.func42, Try.ntmps42
  go_wp2
  go_ret
  exact ⟨rfl, rfl⟩
theorem gt_step {x m M : Nat} (P Mi : Int) (hP : P = ((2 ^ m : Nat) : Int)) (hMi : Mi = ((M : Nat) : Int)) (hx : x < 18446744073709551616) (hM : M < 18446744073709551616) :
    ∃ s a y : Nat, (x : Int) / P = (s : Int) ∧ bits .or .u64 (x : Int) (s : Int) = (a : Int) ∧ bits .and .u64 (a : Int) Mi = (y : Int) ∧ y = gtN m M x ∧ y < 18446744073709551616 ∧ a = x ||| (x / 2 ^ m) ∧ a < 18446744073709551616 := by
  have h1 : x / 2 ^ m < 18446744073709551616 := Nat.lt_of_le_of_lt (Nat.div_le_self _ _) hx
  refine ⟨x / 2 ^ m, x ||| (x / 2 ^ m), gtN m M x, ?_, ?_, ?_, rfl, and_lt hM, rfl, or_lt hx h1⟩
  · rw [hP]; exact (Int.natCast_ediv _ _).symm
  · exact u64_or_nat _ _ hx h1
  · rw [hMi]; exact u64_and_nat _ _ (or_lt hx h1) hM
set_option maxRecDepth 20000 in
set_option maxHeartbeats 4000000 in
theorem gathered_any (n : Nat) (h : n < 18446744073709551616) (w : World) : Calls Try.prog 45 #[.int .u64 (n : Int)] w fun e w' => e = .returned (.int .u32 (gaN n : Nat)) ∧ w' = w := by
  have e0 : ∃ x0 : Nat, bits .and .u64 (n : Int) 6148914691236517205 = (x0 : Int) ∧ x0 = n &&& 6148914691236517205 ∧ x0 < 18446744073709551616 := ⟨_, u64_and_nat n 6148914691236517205 h (by omega), rfl, and_lt (by omega)⟩
  obtain ⟨x0, r0, y0, l0⟩ := e0
  obtain ⟨s1, a1, x1, p1, q1, r1, y1, l1, c1, d1⟩ := gt_step (x := x0) (m := 1) (M := 3689348814741910323) 2 3689348814741910323 (by decide) rfl l0 (by omega)
  obtain ⟨s2, a2, x2, p2, q2, r2, y2, l2, c2, d2⟩ := gt_step (x := x1) (m := 2) (M := 1085102592571150095) 4 1085102592571150095 (by decide) rfl l1 (by omega)
  obtain ⟨s3, a3, x3, p3, q3, r3, y3, l3, c3, d3⟩ := gt_step (x := x2) (m := 4) (M := 71777214294589695) 16 71777214294589695 (by decide) rfl l2 (by omega)
  obtain ⟨s4, a4, x4, p4, q4, r4, y4, l4, c4, d4⟩ := gt_step (x := x3) (m := 8) (M := 281470681808895) 256 281470681808895 (by decide) rfl l3 (by omega)
  obtain ⟨s5, a5, x5, p5, q5, _, y5, l5, z5, k5⟩ := gt_step (x := x4) (m := 16) (M := 4294967295) 65536 4294967295 (by decide) rfl l4 (by omega)
  have hE : gaN n = x5 := by rw [y5, y4, y3, y2, y1, y0]; rfl
  have hF : IntKind.u32.wrap (a5 : Int) = (x5 : Int) := by
    have h1 : x5 = a5 % 4294967296 := by
      rw [y5, z5]
      unfold gtN
      rw [show (4294967295 : Nat) = 2 ^ 32 - 1 from rfl, Nat.and_two_pow_sub_one_eq_mod]
    rw [IntKind.wrap_u32', h1]
    omega
  rw [hE]
  clear hE y0 y1 y2 y3 y4 y5 l0 l1 l2 l3 l4 l5 h z5 k5 c1 c2 c3 c4 d1 d2 d3 d4
  go_enter Try.func45, Try.ntmps45
  go_wp2
  go_ret
  exact ⟨rfl, rfl⟩

set_option maxRecDepth 20000 in
set_option maxHeartbeats 4000000 in
theorem code_any (x y : Int) (hx : in32 x) (hy : in32 y) (w : World) : Calls Try.prog 20 #[pt x y] w fun e w' => e = .returned (.int .u64 (inA 32 (x + 2147483648).toNat (y + 2147483648).toNat : Nat)) ∧ Gr w w' := by
  have hu : (x + 2147483648).toNat < 4294967296 := by unfold in32 at hx; omega
  have hv : (y + 2147483648).toNat < 4294967296 := by unfold in32 at hy; omega
  have R1 := hid0 (raised_any x hx)
  have R2 := hid0 (raised_any y hy)
  generalize (x + 2147483648).toNat = u at *
  generalize (y + 2147483648).toNat = v at *
  have P1 := hid0 (spread_any u hu)
  have P2 := hid0 (spread_any v hv)
  have hc := code_eq hu hv
  have hs1 : spN u < 18446744073709551616 := by unfold spN stN; exact and_lt (by omega)
  have hs2 : spN v < 18446744073709551616 := by unfold spN stN; exact and_lt (by omega)
  have e1 : ∃ t : Nat, IntKind.u64.wrap ((spN v : Nat) * 2 : Int) = (t : Int) ∧ bits .or .u64 (spN u : Nat) (t : Int) = ((inA 32 u v : Nat) : Int) := by
    refine ⟨spN v * 2 % 18446744073709551616, ?_, ?_⟩
    · rw [IntKind.wrap_u64]; omega
    · rw [u64_or_nat _ _ hs1 (Nat.mod_lt _ (by omega)), hc]
  obtain ⟨t, e1, e2⟩ := e1
  generalize inA 32 u v = c at *
  generalize spN u = a at *
  generalize spN v = b at *
  clear hc hs1 hs2 hu hv
  have k0 := Bk.new w 26 [.int .i32 x, .int .i32 y]
  have g0 : Gr w (w.alloc (.cells #[.int .i32 x, .int .i32 y] 26)) := (Gr.refl _).alloc _
  go_enter Try.func20, Try.ntmps20
  go_upto_region 1 with fail
  generalize w.alloc (.cells #[.int .i32 x, .int .i32 y] 26) = W at *
  obtain ⟨y0, y1⟩ := k0.two
  have Q1 : Hid (∀ n, Calls Try.prog 43 #[.int .i32 x] (W.drewN n) fun e w' => e = .returned (.int .u32 (u : Int)) ∧ ∃ n', w' = W.drewN n') := fun n => (R1.out _).mono fun e w' h => ⟨h.1, n, h.2⟩
  have Q2 : Hid (∀ n, Calls Try.prog 43 #[.int .i32 y] (W.drewN n) fun e w' => e = .returned (.int .u32 (v : Int)) ∧ ∃ n', w' = W.drewN n') := fun n => (R2.out _).mono fun e w' h => ⟨h.1, n, h.2⟩
  have Q3 : Hid (∀ n, Calls Try.prog 42 #[.int .u32 (u : Int)] (W.drewN n) fun e w' => e = .returned (.int .u64 (a : Int)) ∧ ∃ n', w' = W.drewN n') := fun n => (P1.out _).mono fun e w' h => ⟨h.1, n, h.2⟩
  have Q4 : Hid (∀ n, Calls Try.prog 42 #[.int .u32 (v : Int)] (W.drewN n) fun e w' => e = .returned (.int .u64 (b : Int)) ∧ ∃ n', w' = W.drewN n') := fun n => (P2.out _).mono fun e w' h => ⟨h.1, n, h.2⟩
  clear R1 R2 P1 P2
  obtain ⟨nF, hnF⟩ : ∃ nF : Nat, 5 ≤ nF := ⟨5, by omega⟩
  have hn1 : 1 ≤ nF - 1 := by omega
  refine (wpIn_wide (n := nF)).1 ?_
  refine region_head_lit 10 (by kernel_rfl) (by kernel_rfl) (by simp) (by kernel_rfl) ?_
  simp only [List.take_succ_cons, List.take_zero, List.drop_succ_cons, List.drop_zero]
  gi_big_quiet_step (fail)
  gi_big_quiet_step (fail)
  refine BigFrame.wpQuietIn_want (by intro w _ f hf; exact trivial) (by rfl) ?_
  intro K hK
  gi_big_quiet_op
  gi_big_quiet_call (exact ⟨fun _ => by omega, callsIn_wide.2 (Q1.out _)⟩)
  refine BigFrame.wpQuietIn_want (by intro w _ f hf; exact trivial) (by rfl) ?_
  intro K hK
  gi_big_quiet_op
  gi_big_quiet_call (exact ⟨fun _ => by omega, callsIn_wide.2 (Q3.out _)⟩)
  gi_big_quiet_step (fail)
  gi_big_quiet_step (fail)
  refine BigFrame.wpQuietIn_want (by intro w _ f hf; exact trivial) (by rfl) ?_
  intro K hK
  gi_big_quiet_op
  gi_big_quiet_call (exact ⟨fun _ => by omega, callsIn_wide.2 (Q2.out _)⟩)
  refine BigFrame.wpQuietIn_want (by intro w _ f hf; exact trivial) (by rfl) ?_
  intro K hK
  gi_big_quiet_op
  gi_big_quiet_call (exact ⟨fun _ => by omega, callsIn_wide.2 (Q4.out _)⟩)
  gi_big_quiet_step (fail)
  gi_big_quiet_step (fail)
  refine wpQuietIn_nil ?_
  intro _ hw'
  obtain ⟨nq, hw''⟩ := hw'
  subst hw''
  gi_wp2
  go_wp2
  go_ret
  exact ⟨rfl, g0.drewN nq⟩
set_option maxRecDepth 20000 in
set_option maxHeartbeats 4000000 in
theorem decode_any (n : Nat) (h : n < 18446744073709551616) (w : World) : Calls Try.prog 22 #[.int .u64 (n : Int)] w fun e w' => e = .returned (pt ((outA 32 n : Nat) - 2147483648 : Int) ((outA 32 (n / 2) : Nat) - 2147483648 : Int)) ∧ Gr w w' := by
  obtain ⟨d1, d2⟩ := decode_eq h
  have l1 : outA 32 n < 4294967296 := outA_lt 32 n
  have l2 : outA 32 (n / 2) < 4294967296 := outA_lt 32 (n / 2)
  have G1 := hid0 (gathered_any n h)
  have G2 := hid0 (gathered_any (n / 2) (by omega))
  have L1 := hid0 (lowered_any _ l1)
  have L2 := hid0 (lowered_any _ l2)
  rw [d1] at G1
  rw [d2] at G2
  have e2 : (n : Int) / 2 = ((n / 2 : Nat) : Int) := by omega
  generalize outA 32 n = a at *
  generalize outA 32 (n / 2) = b at *
  generalize n / 2 = m at *
  clear d1 d2 l1 l2 h
  have k0 := Bk.new w 26 [.int .i32 0, .int .i32 0]
  have g0 : Gr w (w.alloc (.cells #[.int .i32 0, .int .i32 0] 26)) := (Gr.refl _).alloc _
  go_enter Try.func22, Try.ntmps22
  go_upto_region 1 with fail
  generalize w.alloc (.cells #[.int .i32 0, .int .i32 0] 26) = W at *
  obtain ⟨y0, y1⟩ := k0.two
  have z0 := k0.frozen 0
  have z1 := k0.frozen 1
  go_wp2_with (first
    | (go_at_call 45; refine (G1.out _).mono ?_; rintro e w1 ⟨rfl, rfl⟩; clear G1)
    | (go_at_call 44; refine (L1.out _).mono ?_; rintro e w1 ⟨rfl, rfl⟩; clear L1)
    | (go_at_call 45; refine (G2.out _).mono ?_; rintro e w1 ⟨rfl, rfl⟩; clear G2)
    | (go_at_call 44; refine (L2.out _).mono ?_; rintro e w1 ⟨rfl, rfl⟩; clear L2))
  have f2 : Bk ((w1.setCell ⟨w.heap.size, 0, none⟩ (.int .i32 ((a : Int) - 2147483648))).setCell ⟨w.heap.size, 1, none⟩ (.int .i32 ((b : Int) - 2147483648))) w.heap.size 26 [.int .i32 ((a : Int) - 2147483648), .int .i32 ((b : Int) - 2147483648)] := (k0.set 0 _).set 1 _
  have gF := (g0.setCell (p := ⟨w.heap.size, 0, none⟩) (Nat.le_refl _) (.int .i32 ((a : Int) - 2147483648))).setCell (p := ⟨w.heap.size, 1, none⟩) (Nat.le_refl _) (.int .i32 ((b : Int) - 2147483648))
  clear y0 y1 z0 z1 k0
  generalize (w1.setCell ⟨w.heap.size, 0, none⟩ (.int .i32 ((a : Int) - 2147483648))).setCell ⟨w.heap.size, 1, none⟩ (.int .i32 ((b : Int) - 2147483648)) = W6 at *
  obtain ⟨a0, a1⟩ := f2.two
  exact bodyPost_ret (v := pt ((a : Int) - 2147483648) ((b : Int) - 2147483648)) (by simp [results, Try.results22, go_sem, a0, a1]) rfl ⟨rfl, gF⟩
end Go.Proofs.Ytmoddfikhipagaa
