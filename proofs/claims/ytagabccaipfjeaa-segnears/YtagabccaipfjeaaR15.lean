/- Contract of the reference's frac: a fraction as it is told. -/
import Derived.Test.YtagabccaipfjeaaR14
namespace Go.Proofs.Ytagabccaipfjeaa
open Go.RowKit Go.Sort

theorem Rt.gr {w w' : World} {x : Value} {n d : Int} {L : Nat} (h : Rt w x n d L) (g : Gr w w') : Rt w' x n d L := h.mono g.below
/-- The words of a fraction in lowest terms. -/
theorem low_words {n d : Int} (hd : 0 < d) : lowF n d = ((if n < 0 then -(((n.natAbs / Nat.gcd n.natAbs d.natAbs : Nat)) : Int) else ((n.natAbs / Nat.gcd n.natAbs d.natAbs : Nat) : Int)), ((d.natAbs / Nat.gcd n.natAbs d.natAbs : Nat) : Int)) := by
  have e : sgI d = 1 := by unfold sgI; rw [if_neg (by omega)]
  unfold lowF
  rw [e, Int.one_mul]
  unfold Int.gcd
  generalize Nat.gcd n.natAbs d.natAbs = g
  refine Prod.ext ?_ ?_
  · simp only
    by_cases h : n < 0
    · rw [if_pos h]
      have : n = -((n.natAbs : Nat) : Int) := by omega
      conv => lhs; rw [this]
      rw [Int.neg_tdiv]
      rfl
    · rw [if_neg h]
      have : n = ((n.natAbs : Nat) : Int) := by omega
      conv => lhs; rw [this]
      rfl
  · simp only
    have : d = ((d.natAbs : Nat) : Int) := by omega
    conv => lhs; rw [this]
    rfl
set_option maxRecDepth 20000 in
set_option maxHeartbeats 2000000 in
theorem frac_any (x : Value) (n d : Int) (L : Nat) (w : World) (h : Rt w x n d L) (hd : 0 < d) (hd' : d ≤ 9223372036854775807) (hn : n.natAbs ≤ 9223372036854775807) :
    Calls Try.prog 28 #[x] w fun e w' => e = .returned (frv (lowF n d)) ∧ Gr w w' := by
  obtain ⟨r, o, l, c, R, O, M, C, rfl, h1, h2⟩ := h
  have hr : r = decide (n < 0) := by obtain ⟨_, _, _, e, _⟩ := h1; simp at e; exact e.1
  have K1 := hid' (fun W (g : Gr w W) => number_any _ n L W (h1.gr g) (by omega))
  have K2 := hid' (fun W (g : Gr w W) => number_any _ d L W (h2.gr g) (by omega))
  have E := hid' (low_words (n := n) hd)
  obtain ⟨X, hX⟩ : ∃ X, X = n.natAbs := ⟨_, rfl⟩
  obtain ⟨Y, hY⟩ : ∃ Y, Y = d.natAbs := ⟨_, rfl⟩
  have bX : X ≤ 9223372036854775807 := by omega
  have bY : Y ≤ 9223372036854775807 := by omega
  have pY : 0 < Y := by omega
  rw [← hX] at K1 E
  rw [← hY] at K2 E
  have gp : 0 < Nat.gcd X Y := Nat.gcd_pos_of_pos_right _ pY
  have q1 : X / Nat.gcd X Y ≤ 9223372036854775807 := Nat.le_trans (Nat.div_le_self _ _) bX
  have q2 : Y / Nat.gcd X Y ≤ 9223372036854775807 := Nat.le_trans (Nat.div_le_self _ _) bY
  clear hd hd' hn hX hY h1 h2
  subst hr
  generalize hB : decide (n < 0) = B at *
  have E' : Hid (lowF n d = ((if B then -(((X / Nat.gcd X Y : Nat)) : Int) else ((X / Nat.gcd X Y : Nat) : Int)), ((Y / Nat.gcd X Y : Nat) : Int))) := by
    unfold Hid; rw [E.out, ← hB]; simp
  clear E hB
  generalize hLF : lowF n d = LF at *
  clear hLF
  have g0 : Gr w ((w.alloc (.cells #[.bool B, .slice o l c, .bool R, .slice O M C] 53)).alloc (.cells #[.int .i64 0, .int .i64 0] 28)) := ((Gr.refl _).alloc _).alloc _
  have k0 : Q4 ((w.alloc (.cells #[.bool B, .slice o l c, .bool R, .slice O M C] 53)).alloc (.cells #[.int .i64 0, .int .i64 0] 28)) w.heap.size (.bool B) (.slice o l c) (.bool R) (.slice O M C) := (Q4.new w _ _ _ _).gr ((Gr.refl _).alloc _)
  have t0 : TwoF ((w.alloc (.cells #[.bool B, .slice o l c, .bool R, .slice O M C] 53)).alloc (.cells #[.int .i64 0, .int .i64 0] 28)) (w.heap.size + 1) (.int .i64 0) (.int .i64 0) := by
    have := TwoF.new (w.alloc (.cells #[.bool B, .slice o l c, .bool R, .slice O M C] 53)) (.int .i64 0) (.int .i64 0)
    simpa using this
  go_enter Try.func28, Try.ntmps28
  go_wp2_with fail
  refine (K1.out _ g0).mono ?_
  generalize (w.alloc (.cells #[.bool B, .slice o l c, .bool R, .slice O M C] 53)).alloc (.cells #[.int .i64 0, .int .i64 0] 28) = W at *
  rintro e w1 ⟨rfl, g1⟩
  replace k0 := k0.gr g1
  replace t0 := t0.gr g1
  replace g0 := g0.trans g1
  have x2 := k0.c2
  have x3 := k0.c3
  clear g1 K1
  go_wp2_with fail
  refine (K2.out _ g0).mono ?_
  rintro e w2 ⟨rfl, g2⟩
  replace k0 := k0.gr g2
  replace t0 := t0.gr g2
  replace g0 := g0.trans g2
  clear g2 K2 x2 x3
  go_wp2
  go_loopw [5, 6] (fun v5 v6 wr => ∃ P Q : Nat, P ≤ 9223372036854775807 ∧ Q ≤ 9223372036854775807 ∧ v5 = .int .u64 P ∧ v6 = .int .u64 Q ∧ Hid (Nat.gcd P Q = Nat.gcd X Y) ∧ Gr w2 wr) (fun _ v6 _ => (intOf v6).toNat)
  case atStart => exact ⟨X, Y, bX, bY, rfl, rfl, rfl, Gr.refl _⟩
  case round =>
    obtain ⟨P, Q, hP, hQ, rfl, rfl, hE, hg⟩ := hrel
    by_cases hq0 : Q = 0
    · subst hq0
      have EP : Hid (Nat.gcd X Y = P) := by have := hE.out; rw [Nat.gcd_zero_right] at this; exact this.symm
      rw [EP.out] at gp q1 q2 E'
      replace k0 := k0.gr hg
      replace t0 := t0.gr hg
      replace g0 := g0.trans hg
      clear hE hg EP
      have z0 : ¬ (P : Int) = 0 := by omega
      have z1 : ((P : Int) == 0) = false := by simp; omega
      have s1 : Int.tdiv (X : Int) (P : Int) = ((X / P : Nat) : Int) := rfl
      have s2 : Int.tdiv (Y : Int) (P : Int) = ((Y / P : Nat) : Int) := rfl
      generalize X / P = U at *
      generalize Y / P = V at *
      have s3 : IntKind.u64.wrap (U : Int) = U := by rw [IntKind.wrap_u64]; omega
      have s4 : IntKind.u64.wrap (V : Int) = V := by rw [IntKind.wrap_u64]; omega
      have s5 : wrap64 (U : Int) = U := by unfold wrap64; omega
      have s6 : wrap64 (V : Int) = V := by unfold wrap64; omega
      have s7 : wrap64 (-(U : Int)) = -U := by unfold wrap64; omega
      go_upto_region 6 with fail
      go_region
      have g3 : Gr wr (wr.alloc (.cells #[.int .i64 (U : Int), .int .i64 (V : Int)] 28)).drew := ((Gr.refl _).alloc _).drew
      have f0 : TwoF (wr.alloc (.cells #[.int .i64 (U : Int), .int .i64 (V : Int)] 28)).drew wr.heap.size (.int .i64 (U : Int)) (.int .i64 (V : Int)) := (TwoF.new wr _ _).gr (Gr.refl _).drew
      have nF : w.heap.size + 1 ≠ wr.heap.size := fun q => by have := t0.lt; omega
      have szF : w.heap.size ≤ wr.heap.size := g0.size
      replace k0 := k0.gr g3
      replace t0 := t0.gr g3
      replace g0 := g0.trans g3
      clear g3
      generalize (wr.alloc (.cells #[.int .i64 (U : Int), .int .i64 (V : Int)] 28)).drew = W3 at *
      generalize wr.heap.size = XF at *
      have x0 := k0.c0
      have y0 := f0.c0
      have y1 := f0.c1
      have yf := f0.f
      have t1 := t0.c0
      have t2 := t0.c1
      have tf := t0.f
      cases B with
      | true =>
        go_wp2
        refine bodyPost_ret (v := frv (-(U : Int), (V : Int))) (by simp [results, Try.results28, go_sem, t1, t2]) rfl ⟨by rw [E'.out]; rfl, ?_⟩
        exact ((g0.setCell (by simp only []; omega) _).setCell (by simp only []; omega) _).setCell (by simp only []; omega) _
      | false =>
        go_wp2
        refine bodyPost_ret (v := frv ((U : Int), (V : Int))) (by simp [results, Try.results28, go_sem, t1, t2]) rfl ⟨by rw [E'.out]; rfl, ?_⟩
        exact (g0.setCell (by simp only []; omega) _).setCell (by simp only []; omega) _
    · have h1 : ((Q : Int) != 0) = true := by simp; omega
      have h3 : ((Q : Int) == 0) = false := by simp; omega
      have hM : Hid (((P % Q : Nat) : Int) = (P : Int) % (Q : Int)) := Int.natCast_emod P Q
      have hR : P % Q < Q := Nat.mod_lt _ (by omega)
      have h2 : (0 : Int) < (Q : Int) := by omega
      have E : Hid (Nat.gcd Q (P % Q) = Nat.gcd X Y) := by unfold Hid; rw [← hE.out, Nat.gcd_comm P Q, Nat.gcd_rec Q P, Nat.gcd_comm]
      clear hE hq0
      go_wp2
      go_quiet (fail)
      go_wp2
      go_roundw
      case rel => exact ⟨Q, P % Q, hQ, by omega, rfl, by rw [hM.out], E, hg.trans ⟨nq, #[], by rw [grow_empty]⟩⟩
      case measure =>
        show (((P : Int) % (Q : Int)).toNat < ((Q : Int)).toNat)
        rw [← hM.out, Int.toNat_natCast, Int.toNat_natCast]; exact hR
end Go.Proofs.Ytagabccaipfjeaa
