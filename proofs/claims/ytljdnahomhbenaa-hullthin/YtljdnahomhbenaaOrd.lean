/- Contracts of the reference's difference, order, powers of 2, and of numbers of 64 bits with a sign. -/
import Derived.Test.YtljdnahomhbenaaSum
namespace Go.Proofs.Ytljdnahomhbenaa
section
open Go.RowKit Go.Sort

theorem below_cell {w w' : World} {a : Addr} {v : Value} (h : w.cell? a = some v) (g : Below w.heap.size w w') : w'.cell? a = some v :=
  (g.cell (World.block_lt_of_cell? w a h)).trans h

theorem Nm.shape {w : World} {x : Value} {n : Int} (h : Nm w x n) : ∃ r ao len cap, x = .agg #[.bool r, .slice ao len cap] ∧ Hid (Nm w (.agg #[.bool r, .slice ao len cap]) n) := by
  have h' := h
  obtain ⟨ao, cap, l, rfl, _⟩ := h'
  exact ⟨_, ao, l.length, cap, rfl, h⟩
theorem Nm.drew {w : World} {x : Value} {n : Int} (h : Nm w x n) : Nm w.drew x n := h.mono ((Below.refl _ _).drew)
theorem small_neg {n : Int} (h : small n) : small (-n) := by unfold small at *; rw [Int.natAbs_neg]; exact h

/-- Four cells, and that nothing below K has turned. -/
abbrev S4 (a0 a1 a2 a3 : Addr) (x0 x1 x2 x3 : Value) (K : Nat) (W : World) (w : World) : Prop :=
  w.cell? a0 = some x0 ∧ w.cell? a1 = some x1 ∧ w.cell? a2 = some x2 ∧ w.cell? a3 = some x3 ∧ Below K W w
theorem S4.call {a0 a1 a2 a3 : Addr} {x0 x1 x2 x3 : Value} {K : Nat} {W w w' : World} (h : S4 a0 a1 a2 a3 x0 x1 x2 x3 K W w) (hK : K ≤ W.heap.size) (g : Below w.heap.size w w') : S4 a0 a1 a2 a3 x0 x1 x2 x3 K W w' :=
  ⟨below_cell h.1 g, below_cell h.2.1 g, below_cell h.2.2.1 g, below_cell h.2.2.2.1 g, h.2.2.2.2.trans (g.mono (Nat.le_trans hK h.2.2.2.2.size))⟩
theorem S4.set {a0 a1 a2 a3 : Addr} {x0 x1 x2 x3 : Value} {K : Nat} {W w : World} (h : S4 a0 a1 a2 a3 x0 x1 x2 x3 K W w) {p : Addr} (hp : K ≤ p.block) (h0 : a0.block < K) (h1 : a1.block < K) (h2 : a2.block < K) (h3 : a3.block < K) (z : Value) : S4 a0 a1 a2 a3 x0 x1 x2 x3 K W (w.setCell p z) :=
  have f : ∀ a : Addr, a.block < K → (w.setCell p z).cell? a = w.cell? a := fun a ha => World.cell?_setCell_far w p a z (by omega)
  ⟨(f a0 h0).trans h.1, (f a1 h1).trans h.2.1, (f a2 h2).trans h.2.2.1, (f a3 h3).trans h.2.2.2.1, h.2.2.2.2.setCell hp z⟩

set_option maxHeartbeats 1000000 in
theorem sub_num (x y : Value) (m n : Int) (w : World) (hx : Nm w x m) (hy : Nm w y n) (sm : small m) (sn : small n) :
    Calls Try.prog 81 #[x, y] w fun e w' => ∃ z, e = .returned z ∧ Nm w' z (m - n) ∧ Below w.heap.size w w' := by
  obtain ⟨s, ao, la, ca, rfl, hx'⟩ := hx.shape
  obtain ⟨t, bo, lb, cb, rfl, hy'⟩ := hy.shape
  have SN : Hid (small (-n)) := small_neg sn
  have b3 := below3 w (.cells #[.bool s, .slice ao la ca] 53) (.cells #[.bool t, .slice bo lb cb] 53) (.cells #[.bool false, .slice none 0 0] 53)
  have k0 : Bk (((w.alloc (.cells #[.bool s, .slice ao la ca] 53)).alloc (.cells #[.bool t, .slice bo lb cb] 53)).alloc (.cells #[.bool false, .slice none 0 0] 53)) w.heap.size (.bool s) (.slice ao la ca) := ((Bk.new w _ _).alloc _).alloc _
  have k1 : Bk (((w.alloc (.cells #[.bool s, .slice ao la ca] 53)).alloc (.cells #[.bool t, .slice bo lb cb] 53)).alloc (.cells #[.bool false, .slice none 0 0] 53)) (w.heap.size + 1) (.bool t) (.slice bo lb cb) := by simpa using (Bk.new (w.alloc (.cells #[.bool s, .slice ao la ca] 53)) (.bool t) (.slice bo lb cb)).alloc (.cells #[.bool false, .slice none 0 0] 53)
  have k2 : Bk (((w.alloc (.cells #[.bool s, .slice ao la ca] 53)).alloc (.cells #[.bool t, .slice bo lb cb] 53)).alloc (.cells #[.bool false, .slice none 0 0] 53)) (w.heap.size + 1 + 1) (.bool false) (.slice none 0 0) := by simpa using Bk.new ((w.alloc (.cells #[.bool s, .slice ao la ca] 53)).alloc (.cells #[.bool t, .slice bo lb cb] 53)) (.bool false) (.slice none 0 0)
  have hX : Hid (Nm (((w.alloc (.cells #[.bool s, .slice ao la ca] 53)).alloc (.cells #[.bool t, .slice bo lb cb] 53)).alloc (.cells #[.bool false, .slice none 0 0] 53)) (.agg #[.bool s, .slice ao la ca]) m) := hx.mono b3
  have hY : Hid (Nm (((w.alloc (.cells #[.bool s, .slice ao la ca] 53)).alloc (.cells #[.bool t, .slice bo lb cb] 53)).alloc (.cells #[.bool false, .slice none 0 0] 53)) (.agg #[.bool t, .slice bo lb cb]) n) := hy.mono b3
  go_enter Try.func81, Try.ntmps81
  go_wp2
  generalize ((w.alloc (.cells #[.bool s, .slice ao la ca] 53)).alloc (.cells #[.bool t, .slice bo lb cb] 53)).alloc (.cells #[.bool false, .slice none 0 0] 53) = W at *
  have c0 := k0.c0
  have c1 := k0.c1
  have c2 := k1.c0
  have c3 := k1.c1
  have hK : w.heap.size + 1 + 1 ≤ W.heap.size := Nat.le_of_lt k2.lt
  go_region_held3 (S4 ⟨w.heap.size, 0, none⟩ ⟨w.heap.size, 1, none⟩ ⟨w.heap.size + 1, 0, none⟩ ⟨w.heap.size + 1, 1, none⟩ (.bool s) (.slice ao la ca) (.bool t) (.slice bo lb cb) (w.heap.size + 1 + 1) W)
    (first
      | exact ⟨c0, c1, c2, c3, (Below.refl _ _).drew⟩
      | (refine S4.set (S4.set ?_ ?_ ?_ ?_ ?_ ?_ _) ?_ ?_ ?_ ?_ ?_ _ <;> first | assumption | (simp only []; omega))
      | exact S4.call (by assumption) hK (by assumption))
    (first
      | (go_at_call 108; refine (neg_num _ n _ ?_).mono ?_; exact hY.out.drew; rintro e w1 ⟨z, rfl, hz, hb1⟩; obtain ⟨r, zo, nz, cz, rfl, hz'⟩ := hz.shape; clear hz)
      | (go_at_call 101; refine (add_num _ _ m (-n) _ ?_ ?_ sm SN.out).mono ?_; exact hX.out.drew.mono hb1; exact hz'.out; rintro e w2 ⟨z2, rfl, hz2, hb2⟩; obtain ⟨r2, zo2, nz2, cz2, rfl, hz2'⟩ := hz2.shape; clear hz2; have k3 := (k2.mono ((Below.refl W.heap.size W).drew.trans hb1) k2.lt).mono hb2 (Nat.lt_of_lt_of_le k2.lt hb1.size); have q0 := k3.c0; have q1 := k3.c1; have q2 := k3.f0; have q3 := k3.f1))
  go_wp2
  refine bodyPost_ret (v := .agg #[.bool r2, .slice zo2 nz2 cz2]) (by simp [results, Try.results81, go_sem, q0, q1]) rfl ⟨_, rfl, ?_, ?_⟩
  · rw [Int.sub_eq_add_neg]; exact (hz2'.out.setBk k3 _).setBk (k3.set0 _) _
  · have hbl : Below w.heap.size w w2 := (b3.trans ((Below.refl _ _).drew.trans (hb1.mono b3.size))).trans (hb2.mono (Nat.le_trans b3.size hb1.size))
    exact (hbl.setCell (by simp only []; omega) _).setCell (by simp only []; omega) _

/-! ### The order -/
set_option maxHeartbeats 1000000 in
theorem cmp_core (s t : Bool) (ao bo : Option Addr) (ca cb : Nat) (a b : List Int) (w : World) (ha : Rd w ao ca a) (hb : Rd w bo cb b) :
    Calls Try.prog 45 #[.agg #[.bool s, .slice ao a.length ca], .agg #[.bool t, .slice bo b.length cb]] w fun e w' => e = .returned (.int .i64 (if s then (if t then cmpI (vals b) (vals a) else -1) else (if t then 1 else cmpI (vals a) (vals b)))) ∧ Gr w w' := by
  have HA : Hid (Rd ((w.alloc (.cells #[.bool s, .slice ao a.length ca] 53)).alloc (.cells #[.bool t, .slice bo b.length cb] 53)) ao ca a) := ha.mono (below2 _ _ _)
  have HB : Hid (Rd ((w.alloc (.cells #[.bool s, .slice ao a.length ca] 53)).alloc (.cells #[.bool t, .slice bo b.length cb] 53)) bo cb b) := hb.mono (below2 _ _ _)
  clear ha hb
  cases s <;> cases t
  · go_enter Try.func45, Try.ntmps45
    go_wp2_with (go_at_call 72; refine (cmps_any _ _ _ _ _ _ _ _ _ HA.out HB.out).mono ?_; rintro e w' ⟨rfl, hg⟩)
    go_ret
    exact ⟨rfl, (((Gr.refl _).alloc _).alloc _).trans hg⟩
  · go_enter Try.func45, Try.ntmps45
    go_wp2
    go_ret
    exact ⟨rfl, ((Gr.refl _).alloc _).alloc _⟩
  · go_enter Try.func45, Try.ntmps45
    go_wp2
    go_ret
    exact ⟨rfl, ((Gr.refl _).alloc _).alloc _⟩
  · go_enter Try.func45, Try.ntmps45
    go_wp2_with (go_at_call 72; refine (cmps_any _ _ _ _ _ _ _ _ _ HB.out HA.out).mono ?_; rintro e w' ⟨rfl, hg⟩)
    go_ret
    exact ⟨rfl, (((Gr.refl _).alloc _).alloc _).trans hg⟩

theorem cmp_num (x y : Value) (m n : Int) (w : World) (hx : Nm w x m) (hy : Nm w y n) :
    Calls Try.prog 45 #[x, y] w fun e w' => e = .returned (.int .i64 (cmpI m n)) ∧ Gr w w' := by
  obtain ⟨ao, ca, a, rfl, ha, hna, hva⟩ := hx
  obtain ⟨bo, cb, b, rfl, hb, hnb, hvb⟩ := hy
  refine (cmp_core _ _ ao bo ca cb a b w ha hb).mono ?_
  rintro e w' ⟨rfl, hg⟩
  refine ⟨?_, hg⟩
  rw [hva, hvb]
  congr 2
  unfold cmpI
  by_cases h1 : m < 0 <;> by_cases h2 : n < 0 <;> simp only [h1, h2, decide_true, decide_false, if_true, if_false, Bool.false_eq_true] <;> (repeat' split) <;> omega

theorem nm_zero (w : World) : Nm w (.agg #[.bool false, .slice none 0 0]) 0 :=
  ⟨none, 0, [], rfl, ⟨fun _ => ⟨rfl, rfl⟩, fun a ha => (by cases ha), Nat.le_refl _, (by unfold maxLen; omega), fun d hd => (by cases hd), by simp⟩, fun h => absurd rfl h, rfl⟩

set_option maxHeartbeats 1000000 in
theorem sign_num (x : Value) (m : Int) (w : World) (hx : Nm w x m) :
    Calls Try.prog 52 #[x] w fun e w' => e = .returned (.int .i64 (cmpI m 0)) ∧ Gr w w' := by
  obtain ⟨s, ao, la, ca, rfl, hx'⟩ := hx.shape
  have HX : Hid (Nm (w.alloc (.cells #[.bool s, .slice ao la ca] 53)) (.agg #[.bool s, .slice ao la ca]) m) := hx'.out.mono ((Gr.refl _).alloc _).below
  clear hx hx'
  go_enter Try.func52, Try.ntmps52
  go_wp2_with fail
  refine (cmp_num _ _ m 0 _ HX.out (nm_zero _)).mono ?_
  rintro e w' ⟨rfl, hg⟩
  go_wp2
  go_ret
  exact ⟨rfl, ((Gr.refl _).alloc _).trans hg⟩
end
end Go.Proofs.Ytljdnahomhbenaa
