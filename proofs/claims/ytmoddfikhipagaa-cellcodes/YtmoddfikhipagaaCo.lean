/- CellCodes: the law's walk. -/
import Derived.Test.YtmoddfikhipagaaLv
set_option linter.unusedSimpArgs false
set_option linter.unusedVariables false
namespace Go.Proofs.Ytmoddfikhipagaa
open Go.RowKit Go.Sort

def cod (x y : Int) : Nat := inA 32 (x + 2147483648).toNat (y + 2147483648).toNat
theorem cod_lt {x y : Int} : cod x y < 18446744073709551616 := inA_lt 32 _ _
theorem dec_cod {x y : Int} (hx : in32 x) (hy : in32 y) : ((outA 32 (cod x y) : Nat) - 2147483648 : Int) = x ∧ ((outA 32 (cod x y / 2) : Nat) - 2147483648 : Int) = y := by
  unfold in32 at hx hy
  obtain ⟨h1, h2⟩ := out_in 32 (x + 2147483648).toNat (y + 2147483648).toNat (show _ < 4294967296 by omega) (show _ < 4294967296 by omega)
  unfold cod
  rw [h1, h2]
  omega
theorem cod_dec {n : Nat} (h : n < 18446744073709551616) : cod ((outA 32 n : Nat) - 2147483648 : Int) ((outA 32 (n / 2) : Nat) - 2147483648 : Int) = n ∧ in32 ((outA 32 n : Nat) - 2147483648 : Int) ∧ in32 ((outA 32 (n / 2) : Nat) - 2147483648 : Int) := by
  have h1 : outA 32 n < 4294967296 := outA_lt 32 n
  have h2 : outA 32 (n / 2) < 4294967296 := outA_lt 32 (n / 2)
  have h3 := in_out 32 n h
  refine ⟨?_, by unfold in32; omega, by unfold in32; omega⟩
  unfold cod
  rw [show ((outA 32 n : Nat) - 2147483648 + 2147483648 : Int).toNat = outA 32 n by omega, show ((outA 32 (n / 2) : Nat) - 2147483648 + 2147483648 : Int).toNat = outA 32 (n / 2) by omega]
  exact h3
theorem cod_mono {x y x' y' : Int} (hx : in32 x) (hy : in32 y) (hx' : in32 x') (hy' : in32 y') (h1 : x ≤ x') (h2 : y ≤ y') : cod x y ≤ cod x' y' := by
  unfold in32 at *
  exact (in_mono 32 _ _ _ _ (by omega) (by omega) (show _ < 4294967296 by omega) (show _ < 4294967296 by omega)).1

set_option maxRecDepth 20000 in
set_option maxHeartbeats 8000000 in
theorem codes_walk (x y x2 y2 : Int) (n : Nat) (hx : in32 x) (hy : in32 y) (hx2 : in32 x2) (hy2 : in32 y2) (hn : n < 18446744073709551616) (w : World) :
    Calls Try.prog 5 #[pt x y, pt x2 y2, .int .u64 (n : Int)] w fun e w' => e = .returned (.bool true) ∧ Below w.heap.size w w' := by
  obtain ⟨d1, d2⟩ := dec_cod hx hy
  obtain ⟨k1, k2, k3⟩ := cod_dec hn
  have C1 := hid0 (fun w => code_any x y hx hy w)
  have C2 := hid0 (fun w => rcode_any x y hx hy w)
  have C3 := hid0 (fun w => code_any x2 y2 hx2 hy2 w)
  have D1 := hid0 (fun w => decode_any n hn w)
  have D2 := hid0 (fun w => rdecode_any n hn w)
  have D3 := hid0 (fun w => decode_any (cod x y) cod_lt w)
  have C4 := hid0 (fun w => code_any _ _ k2 k3 w)
  have HM : Hid (x ≤ x2 → y ≤ y2 → cod x y ≤ cod x2 y2) := fun h1 h2 => cod_mono hx hy hx2 hy2 h1 h2
  rw [d1, d2] at D3
  change Hid (∀ w, Calls Try.prog 20 #[pt x y] w fun e w' => e = .returned (.int .u64 (cod x y : Nat)) ∧ Gr w w') at C1
  change Hid (∀ w, Calls Try.prog 21 #[pt x y] w fun e w' => e = .returned (.int .u64 (cod x y : Nat)) ∧ Gr w w') at C2
  change Hid (∀ w, Calls Try.prog 20 #[pt x2 y2] w fun e w' => e = .returned (.int .u64 (cod x2 y2 : Nat)) ∧ Gr w w') at C3
  change Hid (∀ w, Calls Try.prog 20 #[pt ((outA 32 n : Nat) - 2147483648 : Int) ((outA 32 (n / 2) : Nat) - 2147483648 : Int)] w fun e w' => e = .returned (.int .u64 (cod ((outA 32 n : Nat) - 2147483648 : Int) ((outA 32 (n / 2) : Nat) - 2147483648 : Int) : Nat)) ∧ Gr w w') at C4
  rw [k1] at C4
  clear d1 d2 k1 k2 k3
  generalize cod x y = c at *
  generalize cod x2 y2 = c2 at *
  generalize ((outA 32 n : Nat) - 2147483648 : Int) = X at *
  generalize ((outA 32 (n / 2) : Nat) - 2147483648 : Int) = Y at *
  clear hx hy hx2 hy2 hn
  have b3 := (Bk.new w 26 [.int .i32 x, .int .i32 y]).alloc (.cells #[.int .i32 x2, .int .i32 y2] 26)
  have b4 := Bk.new (w.alloc (.cells #[.int .i32 x, .int .i32 y] 26)) 26 [.int .i32 x2, .int .i32 y2]
  have g0 : Gr w ((w.alloc (.cells #[.int .i32 x, .int .i32 y] 26)).alloc (.cells #[.int .i32 x2, .int .i32 y2] 26)) := ((Gr.refl _).alloc _).alloc _
  rw [World.size_alloc] at b4
  go_enter Try.func5, Try.ntmps5
  go_upto_region 1 with fail
  generalize (w.alloc (.cells #[.int .i32 x, .int .i32 y] 26)).alloc (.cells #[.int .i32 x2, .int .i32 y2] 26) = W at *
  obtain ⟨p0, p1⟩ := b3.two
  replace p0 := cell_gr p0
  replace p1 := cell_gr p1
  have Q1 : Hid (∀ n os, Calls Try.prog 20 #[pt x y] (grow (W.drewN n) os) fun e w' => e = .returned (.int .u64 (c : Int)) ∧ ∃ p : GrownBy, w' = grow (W.drewN p.n) p.os) := fun n os => Calls.grown_of (C1.out _)
  have Q2 : Hid (∀ n os, Calls Try.prog 21 #[pt x y] (grow (W.drewN n) os) fun e w' => e = .returned (.int .u64 (c : Int)) ∧ ∃ p : GrownBy, w' = grow (W.drewN p.n) p.os) := fun n os => Calls.grown_of (C2.out _)
  have Q3 : Hid (∀ n' os, Calls Try.prog 22 #[.int .u64 (n : Int)] (grow (W.drewN n') os) fun e w' => e = .returned (pt X Y) ∧ ∃ p : GrownBy, w' = grow (W.drewN p.n) p.os) := fun n' os => Calls.grown_of (D1.out _)
  have Q4 : Hid (∀ n' os, Calls Try.prog 23 #[.int .u64 (n : Int)] (grow (W.drewN n') os) fun e w' => e = .returned (pt X Y) ∧ ∃ p : GrownBy, w' = grow (W.drewN p.n) p.os) := fun n' os => Calls.grown_of (D2.out _)
  have Q5 : Hid (∀ n' os, Calls Try.prog 22 #[.int .u64 (c : Int)] (grow (W.drewN n') os) fun e w' => e = .returned (pt x y) ∧ ∃ p : GrownBy, w' = grow (W.drewN p.n) p.os) := fun n' os => Calls.grown_of (D3.out _)
  have Q6 : Hid (∀ n' os, Calls Try.prog 20 #[pt X Y] (grow (W.drewN n') os) fun e w' => e = .returned (.int .u64 (n : Int)) ∧ ∃ p : GrownBy, w' = grow (W.drewN p.n) p.os) := fun n' os => Calls.grown_of (C4.out _)
  clear C2 D1 D2 D3 C4
  refine wp_region_quiet_grown (by kernel_rfl) (by kernel_rfl) ?_
  go_big_quiet_step (fail)
  go_big_quiet_step (exact Q1.out _ _)
  go_big_quiet_step (fail)
  go_big_quiet_step (exact Q2.out _ _)
  repeat (go_big_quiet_step (fail))
  go_big_quiet_step (exact Q3.out _ _)
  repeat (go_big_quiet_step (fail))
  go_big_quiet_step (exact Q4.out _ _)
  repeat (go_big_quiet_step (fail))
  go_big_quiet_step (exact Q1.out _ _)
  go_big_quiet_step (exact Q5.out _ _)
  repeat (go_big_quiet_step (fail))
  go_big_quiet_step (exact Q3.out _ _)
  go_big_quiet_step (exact Q6.out _ _)
  repeat (go_big_quiet_step (fail))
  refine wpQuiet_nil ?_
  intro _ hw'
  obtain ⟨⟨nq, osq⟩, hw''⟩ := hw'
  subst hw''
  have g1 : Gr W (grow (W.drewN nq) osq) := ⟨nq, osq, rfl⟩
  clear Q1 Q2 Q3 Q4 Q5 Q6 p0 p1
  replace b3 := b3.gr g1
  replace b4 := b4.gr g1
  replace g0 := g0.trans g1
  clear g1
  generalize grow (W.drewN nq) osq = W2 at *
  go_upto_region 3 with fail
  obtain ⟨p0, p1⟩ := b3.two
  obtain ⟨q0, q1⟩ := b4.two
  replace p0 := cell_gr p0
  replace p1 := cell_gr p1
  replace q0 := cell_gr q0
  replace q1 := cell_gr q1
  have LV := hid0 lives_any
  have Q1 : Hid (∀ n os, Calls Try.prog 20 #[pt x y] (grow (W2.drewN n) os) fun e w' => e = .returned (.int .u64 (c : Int)) ∧ ∃ p : GrownBy, w' = grow (W2.drewN p.n) p.os) := fun n os => Calls.grown_of (C1.out _)
  have Q2 : Hid (∀ n os, Calls Try.prog 20 #[pt x2 y2] (grow (W2.drewN n) os) fun e w' => e = .returned (.int .u64 (c2 : Int)) ∧ ∃ p : GrownBy, w' = grow (W2.drewN p.n) p.os) := fun n os => Calls.grown_of (C3.out _)
  clear C1 C3 b3 b4
  by_cases h1 : x ≤ x2
  · by_cases h2 : y ≤ y2
    · have hcc := HM.out h1 h2
      have hcc' : ¬ ((c2 : Int) < (c : Int)) := by omega
      clear hcc HM
      refine wp_region_quiet_grown (by kernel_rfl) (by kernel_rfl) ?_
      repeat (go_big_quiet_step (fail))
      go_big_quiet_step (exact Q1.out _ _)
      repeat (go_big_quiet_step (fail))
      go_big_quiet_step (exact Q2.out _ _)
      repeat (go_big_quiet_step (fail))
      refine wpQuiet_nil ?_
      intro _ hw'
      obtain ⟨⟨nr, osr⟩, hw''⟩ := hw'
      subst hw''
      have g2 : Gr W2 (grow (W2.drewN nr) osr) := ⟨nr, osr, rfl⟩
      replace g0 := g0.trans g2
      generalize grow (W2.drewN nr) osr = W3 at *
      go_wp2_with (go_at_call 17; refine (LV.out _).mono ?_; rintro e w9 ⟨rfl, h9⟩)
      go_ret
      exact ⟨rfl, g0.below.trans (h9.mono g0.size)⟩
    · clear HM
      refine wp_region_quiet_grown (by kernel_rfl) (by kernel_rfl) ?_
      repeat (go_big_quiet_step (fail))
      refine wpQuiet_nil ?_
      intro _ hw'
      obtain ⟨⟨nr, osr⟩, hw''⟩ := hw'
      subst hw''
      have g2 : Gr W2 (grow (W2.drewN nr) osr) := ⟨nr, osr, rfl⟩
      replace g0 := g0.trans g2
      generalize grow (W2.drewN nr) osr = W3 at *
      go_wp2_with (go_at_call 17; refine (LV.out _).mono ?_; rintro e w9 ⟨rfl, h9⟩)
      go_ret
      exact ⟨rfl, g0.below.trans (h9.mono g0.size)⟩
  · clear HM
    refine wp_region_quiet_grown (by kernel_rfl) (by kernel_rfl) ?_
    repeat (go_big_quiet_step (fail))
    refine wpQuiet_nil ?_
    intro _ hw'
    obtain ⟨⟨nr, osr⟩, hw''⟩ := hw'
    subst hw''
    have g2 : Gr W2 (grow (W2.drewN nr) osr) := ⟨nr, osr, rfl⟩
    replace g0 := g0.trans g2
    generalize grow (W2.drewN nr) osr = W3 at *
    go_wp2_with (go_at_call 17; refine (LV.out _).mono ?_; rintro e w9 ⟨rfl, h9⟩)
    go_ret
    exact ⟨rfl, g0.below.trans (h9.mono g0.size)⟩
end Go.Proofs.Ytmoddfikhipagaa
