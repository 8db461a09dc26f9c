/- Headings: plain, and the program's. -/
import Derived.Test.YtgdmbcfjjdngdaaDoorDw
import Derived.Test.YtgdmbcfjjdngdaaDoorBm
set_option linter.unusedSimpArgs false
set_option linter.unusedVariables false
namespace Go.Proofs.YtgdmbcfjjdngdaaDoor
open Go.RowKit Go.Sort

/-- Is a direction with these sizes nearer to its own axis than to the diagonal? -/
def flB (a b : Nat) : Bool := decide (b < a) && decide (2 * b * b < (a - b) * (a - b))
def sg3 (x : Int) : Int := if x < 0 then -1 else if 0 < x then 1 else 0
/-- The sectors by the signs of dy and of dx. -/
def secT (r c : Int) : Int := if r = -1 then (if c = -1 then 5 else if c = 0 then 6 else 7) else if r = 0 then (if c = -1 then 4 else if c = 0 then -1 else 0) else (if c = -1 then 3 else if c = 0 then 2 else 1)
def hdF (dx dy : Int) : Int := if flB dx.natAbs dy.natAbs then secT 0 (sg3 dx) else if flB dy.natAbs dx.natAbs then secT (sg3 dy) 0 else secT (sg3 dy) (sg3 dx)
theorem along_any (a b : Nat) (ha : a < 4294967296) (hb : b < 4294967296) (w : World) : Calls Tryd.prog 21 #[.int .u64 (a : Int), .int .u64 (b : Int)] w fun e w' => e = .returned (.bool (flB a b)) ∧ w' = w := by
  by_cases h1 : b < a
  · have m1 : IntKind.u64.wrap ((a : Int) - (b : Int)) = ((a - b : Nat) : Int) := by rw [IntKind.wrap_u64]; omega
    have d1 : decide ((a : Int) > (b : Int)) = true := decide_eq_true (by omega)
    have d1' : (a : Int) > (b : Int) := by omega
    obtain ⟨c, hc⟩ : ∃ c, c = a - b := ⟨_, rfl⟩
    by_cases h2 : b < c
    · have hb2 : b < 2147483648 := by omega
      have hcc : c * c < 18446744073709551616 := by
        have := Nat.mul_le_mul (show c ≤ 4294967295 by omega) (show c ≤ 4294967295 by omega)
        omega
      have hbb : b * b ≤ 2147483647 * 2147483647 := Nat.mul_le_mul (by omega) (by omega)
      have e : flB a b = decide (2 * (b * b) < c * c) := by unfold flB; rw [← hc, decide_eq_true h1, Bool.true_and, Nat.mul_assoc]
      have d2 : decide (((a - b : Nat) : Int) > (b : Int)) = true := decide_eq_true (by omega)
      have d2' : ((a - b : Nat) : Int) > (b : Int) := by omega
      rw [← hc] at m1 d2 d2'
      have m2 : IntKind.u64.wrap ((c : Int) * (c : Int)) = ((c * c : Nat) : Int) := by rw [IntKind.wrap_u64, ← Int.natCast_mul]; omega
      have m3 : IntKind.u64.wrap (2 * (b : Int)) = ((2 * b : Nat) : Int) := by rw [IntKind.wrap_u64]; omega
      have m4 : IntKind.u64.wrap (((2 * b : Nat) : Int) * (b : Int)) = ((2 * (b * b) : Nat) : Int) := by rw [IntKind.wrap_u64, ← Int.natCast_mul, Nat.mul_assoc]; omega
      rw [e]
      generalize c * c = C at *
      generalize 2 * (b * b) = D at *
      generalize ((2 * b : Nat) : Int) = E at *
      have HD : Hid (decide ((C : Int) > (D : Int)) = decide (D < C)) := by show _ = _; congr 1; apply propext; omega
      clear hcc hbb e hb2 h1 h2 ha hb hc
      go_enter Tryd.func21, Tryd.ntmps21
      go_wp2
      go_ret
      exact ⟨rfl, rfl⟩
    · have e : flB a b = false := by
        unfold flB
        have : c * c ≤ b * b := Nat.mul_le_mul (by omega) (by omega)
        rw [← hc, Nat.mul_assoc, decide_eq_false (show ¬ 2 * (b * b) < c * c by omega), Bool.and_false]
      have d2 : decide (((a - b : Nat) : Int) > (b : Int)) = false := decide_eq_false (by omega)
      have d2' : ¬ ((a - b : Nat) : Int) > (b : Int) := by omega
      rw [← hc] at m1 d2 d2'
      rw [e]
      clear e h1 h2 ha hb hc
      go_enter Tryd.func21, Tryd.ntmps21
      go_wp2
      go_ret
      exact ⟨rfl, rfl⟩
  · have e : flB a b = false := by unfold flB; rw [decide_eq_false h1, Bool.false_and]
    have d1 : decide ((a : Int) > (b : Int)) = false := decide_eq_false (by omega)
    have d1' : ¬ (a : Int) > (b : Int) := by omega
    rw [e]
    clear e h1 ha hb
    go_enter Tryd.func21, Tryd.ntmps21
    go_wp2
    go_ret
    exact ⟨rfl, rfl⟩
theorem cmp_any (x : Int) (w : World) : Calls Tryd.prog 22 #[.int .i64 x, .int .i64 0] w fun e w' => e = .returned (.int .i64 (sg3 x)) ∧ w' = w := by
  by_cases h1 : x < 0
  · have e : sg3 x = -1 := if_pos h1
    rw [e]
    clear e
    go_enter Tryd.func22, Tryd.ntmps22
    go_wp2
    go_ret
    exact ⟨rfl, rfl⟩
  · by_cases h2 : x > 0
    · have e : sg3 x = 1 := by unfold sg3; rw [if_neg h1, if_pos h2]
      rw [e]
      clear e
      go_enter Tryd.func22, Tryd.ntmps22
      go_wp2
      go_ret
      exact ⟨rfl, rfl⟩
    · have e : sg3 x = 0 := by unfold sg3; rw [if_neg h1, if_neg h2]
      rw [e]
      clear e
      go_enter Tryd.func22, Tryd.ntmps22
      go_wp2
      go_ret
      exact ⟨rfl, rfl⟩
theorem sg3_in (x : Int) : sg3 x = -1 ∨ sg3 x = 0 ∨ sg3 x = 1 := by unfold sg3; split; exact .inl rfl; split; exact .inr (.inr rfl); exact .inr (.inl rfl)
/-- The sectors lie in memory. -/
def Sec (w : World) : Prop := ∀ r c : Nat, r < 3 → c < 3 → w.cell? ⟨1, r * 3 + c, none⟩ = some (.int .i64 (secT ((r : Int) - 1) ((c : Int) - 1)))
theorem Sec.gr {w w' : World} (h : Sec w) (k : Gr w w') : Sec w' := fun r c hr hc => below_cell (h r c hr hc) k.below
theorem Sec.below {w w' : World} (h : Sec w) (k : Below w.heap.size w w') : Sec w' := fun r c hr hc => below_cell (h r c hr hc) k
theorem Sec.lit {w : World} (h : Sec w) : (w.cell? ⟨1, 0, none⟩ = some (.int .i64 5) ∧ w.cell? ⟨1, 1, none⟩ = some (.int .i64 6) ∧ w.cell? ⟨1, 2, none⟩ = some (.int .i64 7)) ∧ (w.cell? ⟨1, 3, none⟩ = some (.int .i64 4) ∧ w.cell? ⟨1, 4, none⟩ = some (.int .i64 (-1)) ∧ w.cell? ⟨1, 5, none⟩ = some (.int .i64 0)) ∧ (w.cell? ⟨1, 6, none⟩ = some (.int .i64 3) ∧ w.cell? ⟨1, 7, none⟩ = some (.int .i64 2) ∧ w.cell? ⟨1, 8, none⟩ = some (.int .i64 1)) :=
  ⟨⟨h 0 0 (by decide) (by decide), h 0 1 (by decide) (by decide), h 0 2 (by decide) (by decide)⟩, ⟨h 1 0 (by decide) (by decide), h 1 1 (by decide) (by decide), h 1 2 (by decide) (by decide)⟩, h 2 0 (by decide) (by decide), h 2 1 (by decide) (by decide), h 2 2 (by decide) (by decide)⟩
theorem sg30 : sg3 0 = 0 := rfl
set_option maxHeartbeats 4000000 in
theorem heading_any {x y u v : Int} (hx : in32 x) (hy : in32 y) (hu : in32 u) (hv : in32 v) (w : World) (hS : Sec w) :
    Calls Tryd.prog 13 #[pt x y, pt u v] w fun e w' => e = .returned (.int .i64 (hdF (u - x) (v - y))) ∧ Gr w w' := by
  obtain ⟨g, k1, k2⟩ := two_pts x y u v w
  have BT : Hid (∀ W, Calls Tryd.prog 19 #[pt x y, pt u v] W fun e w' => e = .returned (.tuple #[.int .i64 (u - x), .int .i64 (v - y)]) ∧ Gr W w') := fun W => between_any hx hy hu hv W
  have h1 := (sub33 hx hu).1
  have h2 := (sub33 hy hv).1
  generalize u - x = a at *
  generalize v - y = c at *
  have SZ : Hid (∀ d W, (d = a ∨ d = c) → Calls Tryd.prog 20 #[.int .i64 d] W fun e w' => e = .returned (.int .u64 (d.natAbs : Int)) ∧ w' = W) := fun d W hd => size_any (by rcases hd with rfl | rfl; exact h1; exact h2) W
  have AL : Hid (∀ p q W, p = a.natAbs ∧ q = c.natAbs ∨ p = c.natAbs ∧ q = a.natAbs → Calls Tryd.prog 21 #[.int .u64 (p : Int), .int .u64 (q : Int)] W fun e w' => e = .returned (.bool (flB p q)) ∧ w' = W) := fun p q W hpq => by
    unfold in33 at h1 h2
    exact along_any p q (by rcases hpq with ⟨rfl, rfl⟩ | ⟨rfl, rfl⟩ <;> omega) (by rcases hpq with ⟨rfl, rfl⟩ | ⟨rfl, rfl⟩ <;> omega) W
  have HH : Hid (hdF a c = if flB a.natAbs c.natAbs then secT 0 (sg3 a) else if flB c.natAbs a.natAbs then secT (sg3 c) 0 else secT (sg3 c) (sg3 a)) := rfl
  have G := hid0 g
  have HS := hid0 hS
  clear hx hy hu hv g h1 h2 hS
  go_enter Tryd.func13, Tryd.ntmps13
  go_upto_region 1 with fail
  generalize w.heap.size + 1 = b2 at *
  generalize w.heap.size = b1 at *
  generalize World.alloc _ _ = W at *
  obtain ⟨p0, p1⟩ := k1.two
  obtain ⟨q0, q1⟩ := k2.two
  go_upto_region 2 with (go_at_call 19; refine (BT.out _).mono ?_; rintro e w1 ⟨rfl, g1⟩)
  have G1 := hid0 (G.out.trans g1)
  clear g1 G k1 k2 p0 p1 q0 q1
  go_upto_region 3 with (go_at_call 20; refine (SZ.out _ _ (by first | exact .inl rfl | exact .inr rfl)).mono ?_; rintro e w2 ⟨rfl, hw⟩; cases hw)
  have CM : Hid (∀ z m os, Calls Tryd.prog 22 #[.int .i64 z, .int .i64 0] (grow (w1.drewN m) os) fun e w' => e = .returned (.int .i64 (sg3 z)) ∧ ∃ p : GrownBy, w' = grow (w1.drewN p.n) p.os) := fun z m os => calm (fun W _ => cmp_any z W) m os
  have s0 := cell_gr (HS.out.below G1.out.below).lit.1.1
  have s1 := cell_gr (HS.out.below G1.out.below).lit.1.2.1
  have s2 := cell_gr (HS.out.below G1.out.below).lit.1.2.2
  have s3 := cell_gr (HS.out.below G1.out.below).lit.2.1.1
  have s4 := cell_gr (HS.out.below G1.out.below).lit.2.1.2.1
  have s5 := cell_gr (HS.out.below G1.out.below).lit.2.1.2.2
  have s6 := cell_gr (HS.out.below G1.out.below).lit.2.2.1
  have s7 := cell_gr (HS.out.below G1.out.below).lit.2.2.2.1
  have s8 := cell_gr (HS.out.below G1.out.below).lit.2.2.2.2
  have z0 := sg30
  clear SZ HS BT
  cases hp : flB a.natAbs c.natAbs with
  | true =>
    go_upto_region 7 with (go_at_call 21; refine (AL.out _ _ _ (by first | exact .inl ⟨rfl, rfl⟩ | exact .inr ⟨rfl, rfl⟩)).mono ?_; rintro e w2 ⟨rfl, hw⟩; cases hw)
    rcases sg3_in a with ea | ea | ea
    all_goals
      refine wp_region_quiet_grown (by kernel_rfl) (by kernel_rfl) ?_
      repeat (go_big_quiet_step (exact CM.out _ _ _))
      refine wpQuiet_nil ?_
      intro _ hw'
      obtain ⟨⟨nq, osq⟩, hw''⟩ := hw'
      subst hw''
      have gg := hid0 (G1.out.trans ⟨nq, osq, rfl⟩)
      go_wp2
      go_ret
      refine ⟨?_, gg.out⟩
      rw [HH.out]
      simp only [hp, if_true, ea]
      rfl
  | false =>
    cases hq : flB c.natAbs a.natAbs with
    | true =>
      go_upto_region 7 with (go_at_call 21; refine (AL.out _ _ _ (by first | exact .inl ⟨rfl, rfl⟩ | exact .inr ⟨rfl, rfl⟩)).mono ?_; rintro e w2 ⟨rfl, hw⟩; cases hw)
      rcases sg3_in c with ec | ec | ec
      all_goals
        refine wp_region_quiet_grown (by kernel_rfl) (by kernel_rfl) ?_
        repeat (go_big_quiet_step (exact CM.out _ _ _))
        refine wpQuiet_nil ?_
        intro _ hw'
        obtain ⟨⟨nq, osq⟩, hw''⟩ := hw'
        subst hw''
        have gg := hid0 (G1.out.trans ⟨nq, osq, rfl⟩)
        go_wp2
        go_ret
        refine ⟨?_, gg.out⟩
        rw [HH.out]
        simp only [hp, hq, if_true, if_false, Bool.false_eq_true, ec]
        rfl
    | false =>
      go_upto_region 7 with (go_at_call 21; refine (AL.out _ _ _ (by first | exact .inl ⟨rfl, rfl⟩ | exact .inr ⟨rfl, rfl⟩)).mono ?_; rintro e w2 ⟨rfl, hw⟩; cases hw)
      rcases sg3_in a with ea | ea | ea <;> rcases sg3_in c with ec | ec | ec
      all_goals
        refine wp_region_quiet_grown (by kernel_rfl) (by kernel_rfl) ?_
        repeat (go_big_quiet_step (exact CM.out _ _ _))
        refine wpQuiet_nil ?_
        intro _ hw'
        obtain ⟨⟨nq, osq⟩, hw''⟩ := hw'
        subst hw''
        have gg := hid0 (G1.out.trans ⟨nq, osq, rfl⟩)
        go_wp2
        go_ret
        refine ⟨?_, gg.out⟩
        rw [HH.out]
        simp only [hp, hq, if_false, Bool.false_eq_true, ea, ec]
        rfl
end Go.Proofs.YtgdmbcfjjdngdaaDoor
