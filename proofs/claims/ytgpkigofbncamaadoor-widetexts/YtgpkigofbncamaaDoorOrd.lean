/- Contracts of the reference's difference, order, powers of 2, and of numbers of 64 bits with a sign. -/
import Derived.Test.YtgpkigofbncamaaDoorSum
namespace Go.Proofs.YtgpkigofbncamaaDoor
open Go.RowKit Go.Sort

theorem below_cell {w w' : World} {a : Addr} {v : Value} (h : w.cell? a = some v) (g : Below w.heap.size w w') : w'.cell? a = some v :=
  (g.cell (World.block_lt_of_cell? w a h)).trans h

theorem Nm.shape {w : World} {x : Value} {n : Int} (h : Nm w x n) : ∃ r ao len cap, x = .agg #[.bool r, .slice ao len cap] ∧ Hid (Nm w (.agg #[.bool r, .slice ao len cap]) n) := by
  have h' := h
  obtain ⟨ao, cap, l, rfl, _⟩ := h'
  exact ⟨_, ao, l.length, cap, rfl, h⟩
theorem Nm.drew {w : World} {x : Value} {n : Int} (h : Nm w x n) : Nm w.drew x n := h.mono ((Below.refl _ _).drew)
theorem small_neg {n : Int} (h : small n) : small (-n) := by unfold small at *; rw [Int.natAbs_neg]; exact h

/-- Four cells, and that nothing below K has turned. -/
abbrev S4 (a0 a1 a2 a3 : Addr) (x0 x1 x2 x3 : Value) (K : Nat) (W : World) (w : World) : Prop :=
  w.cell? a0 = some x0 ∧ w.cell? a1 = some x1 ∧ w.cell? a2 = some x2 ∧ w.cell? a3 = some x3 ∧ Below K W w
theorem S4.call {a0 a1 a2 a3 : Addr} {x0 x1 x2 x3 : Value} {K : Nat} {W w w' : World} (h : S4 a0 a1 a2 a3 x0 x1 x2 x3 K W w) (hK : K ≤ W.heap.size) (g : Below w.heap.size w w') : S4 a0 a1 a2 a3 x0 x1 x2 x3 K W w' :=
  ⟨below_cell h.1 g, below_cell h.2.1 g, below_cell h.2.2.1 g, below_cell h.2.2.2.1 g, h.2.2.2.2.trans (g.mono (Nat.le_trans hK h.2.2.2.2.size))⟩
theorem S4.set {a0 a1 a2 a3 : Addr} {x0 x1 x2 x3 : Value} {K : Nat} {W w : World} (h : S4 a0 a1 a2 a3 x0 x1 x2 x3 K W w) {p : Addr} (hp : K ≤ p.block) (h0 : a0.block < K) (h1 : a1.block < K) (h2 : a2.block < K) (h3 : a3.block < K) (z : Value) : S4 a0 a1 a2 a3 x0 x1 x2 x3 K W (w.setCell p z) :=
  have f : ∀ a : Addr, a.block < K → (w.setCell p z).cell? a = w.cell? a := fun a ha => World.cell?_setCell_far w p a z (by omega)
  ⟨(f a0 h0).trans h.1, (f a1 h1).trans h.2.1, (f a2 h2).trans h.2.2.1, (f a3 h3).trans h.2.2.2.1, h.2.2.2.2.setCell hp z⟩



/-! ### The order -/
set_option maxHeartbeats 1000000 in
theorem cmp_core (s t : Bool) (ao bo : Option Addr) (ca cb : Nat) (a b : List Int) (w : World) (ha : Rd w ao ca a) (hb : Rd w bo cb b) :
    Calls Tryd.prog 49 #[.agg #[.bool s, .slice ao a.length ca], .agg #[.bool t, .slice bo b.length cb]] w fun e w' => e = .returned (.int .i64 (if s then (if t then cmpI (vals b) (vals a) else -1) else (if t then 1 else cmpI (vals a) (vals b)))) ∧ Gr w w' := by
  have HA : Hid (Rd ((w.alloc (.cells #[.bool s, .slice ao a.length ca] 31)).alloc (.cells #[.bool t, .slice bo b.length cb] 31)) ao ca a) := ha.mono (below2 _ _ _)
  have HB : Hid (Rd ((w.alloc (.cells #[.bool s, .slice ao a.length ca] 31)).alloc (.cells #[.bool t, .slice bo b.length cb] 31)) bo cb b) := hb.mono (below2 _ _ _)
  clear ha hb
  cases s <;> cases t
  · go_enter Tryd.func49, Tryd.ntmps49
    go_wp2_with (go_at_call 39; refine (cmps_any _ _ _ _ _ _ _ _ _ HA.out HB.out).mono ?_; rintro e w' ⟨rfl, hg⟩)
    go_ret
    exact ⟨rfl, (((Gr.refl _).alloc _).alloc _).trans hg⟩
  · go_enter Tryd.func49, Tryd.ntmps49
    go_wp2
    go_ret
    exact ⟨rfl, ((Gr.refl _).alloc _).alloc _⟩
  · go_enter Tryd.func49, Tryd.ntmps49
    go_wp2
    go_ret
    exact ⟨rfl, ((Gr.refl _).alloc _).alloc _⟩
  · go_enter Tryd.func49, Tryd.ntmps49
    go_wp2_with (go_at_call 39; refine (cmps_any _ _ _ _ _ _ _ _ _ HB.out HA.out).mono ?_; rintro e w' ⟨rfl, hg⟩)
    go_ret
    exact ⟨rfl, (((Gr.refl _).alloc _).alloc _).trans hg⟩

theorem cmp_num (x y : Value) (m n : Int) (w : World) (hx : Nm w x m) (hy : Nm w y n) :
    Calls Tryd.prog 49 #[x, y] w fun e w' => e = .returned (.int .i64 (cmpI m n)) ∧ Gr w w' := by
  obtain ⟨ao, ca, a, rfl, ha, hna, hva⟩ := hx
  obtain ⟨bo, cb, b, rfl, hb, hnb, hvb⟩ := hy
  refine (cmp_core _ _ ao bo ca cb a b w ha hb).mono ?_
  rintro e w' ⟨rfl, hg⟩
  refine ⟨?_, hg⟩
  rw [hva, hvb]
  congr 2
  unfold cmpI
  by_cases h1 : m < 0 <;> by_cases h2 : n < 0 <;> simp only [h1, h2, decide_true, decide_false, if_true, if_false, Bool.false_eq_true] <;> (repeat' split) <;> omega

theorem nm_zero (w : World) : Nm w (.agg #[.bool false, .slice none 0 0]) 0 :=
  ⟨none, 0, [], rfl, ⟨fun _ => ⟨rfl, rfl⟩, fun a ha => (by cases ha), Nat.le_refl _, (by unfold maxLen; omega), fun d hd => (by cases hd), by simp⟩, fun h => absurd rfl h, rfl⟩


end Go.Proofs.YtgpkigofbncamaaDoor
