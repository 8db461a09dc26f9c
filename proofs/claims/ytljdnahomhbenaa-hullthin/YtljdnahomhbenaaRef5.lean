/- Contracts of the reference's ways, cross and inner products, as numbers of any size. -/
import Derived.Test.YtljdnahomhbenaaRound
import Derived.Test.YtljdnahomhbenaaPt2
import Derived.Deep.RegionHeld3
namespace Go.Proofs.Ytljdnahomhbenaa
section
open Go.RowKit Go.Sort

theorem hmono {w w' : World} {x : Value} {n : Int} (h : Hid (Nm w x n)) (g : Below w.heap.size w w') : Hid (Nm w' x n) := h.out.mono g
/-- Six cells, and that nothing below K has turned. -/
abbrev S6 (a0 a1 a2 a3 a4 a5 : Addr) (x0 x1 x2 x3 x4 x5 : Value) (K : Nat) (W : World) (w : World) : Prop :=
  w.cell? a0 = some x0 ∧ w.cell? a1 = some x1 ∧ w.cell? a2 = some x2 ∧ w.cell? a3 = some x3 ∧ w.cell? a4 = some x4 ∧ w.cell? a5 = some x5 ∧ Below K W w
theorem S6.call {a0 a1 a2 a3 a4 a5 : Addr} {x0 x1 x2 x3 x4 x5 : Value} {K : Nat} {W w w' : World} (h : S6 a0 a1 a2 a3 a4 a5 x0 x1 x2 x3 x4 x5 K W w) (hK : K ≤ W.heap.size) (g : Below w.heap.size w w') : S6 a0 a1 a2 a3 a4 a5 x0 x1 x2 x3 x4 x5 K W w' :=
  ⟨below_cell h.1 g, below_cell h.2.1 g, below_cell h.2.2.1 g, below_cell h.2.2.2.1 g, below_cell h.2.2.2.2.1 g, below_cell h.2.2.2.2.2.1 g, h.2.2.2.2.2.2.trans (g.mono (Nat.le_trans hK h.2.2.2.2.2.2.size))⟩
theorem S6.set {a0 a1 a2 a3 a4 a5 : Addr} {x0 x1 x2 x3 x4 x5 : Value} {K : Nat} {W w : World} (h : S6 a0 a1 a2 a3 a4 a5 x0 x1 x2 x3 x4 x5 K W w) {p : Addr} (hp : K ≤ p.block) (h0 : a0.block < K) (h1 : a1.block < K) (h2 : a2.block < K) (h3 : a3.block < K) (h4 : a4.block < K) (h5 : a5.block < K) (z : Value) : S6 a0 a1 a2 a3 a4 a5 x0 x1 x2 x3 x4 x5 K W (w.setCell p z) :=
  have f : ∀ a : Addr, a.block < K → (w.setCell p z).cell? a = w.cell? a := fun a ha => World.cell?_setCell_far w p a z (by omega)
  ⟨(f a0 h0).trans h.1, (f a1 h1).trans h.2.1, (f a2 h2).trans h.2.2.1, (f a3 h3).trans h.2.2.2.1, (f a4 h4).trans h.2.2.2.2.1, (f a5 h5).trans h.2.2.2.2.2.1, h.2.2.2.2.2.2.setCell hp z⟩

set_option maxHeartbeats 1000000 in
theorem rway_num (a b : Int) (ha : in32 a) (hb : in32 b) (w : World) :
    Calls Try.prog 83 #[.int .i32 a, .int .i32 b] w fun e w' => ∃ z, e = .returned z ∧ Nm w' z (b - a) ∧ Below w.heap.size w w' := by
  have e1 := w64_in ha
  have e2 := w64_in hb
  have e3 := w64_dif hb ha
  have O : Hid (∀ w, Calls Try.prog 43 #[.int .i64 (wrap64 (b - a))] w fun e w' => ∃ z, e = .returned z ∧ Nm w' z (b - a) ∧ Below w.heap.size w w') := fun w => by
    rw [e3]; exact of_num (b - a) w (dif_bd hb ha).1 (dif_bd hb ha).2
  clear ha hb e3
  have k0 := Bk.new w (.bool false) (.slice none 0 0)
  have hb0 : Below w.heap.size w (w.alloc (.cells #[.bool false, .slice none 0 0] 53)) := ((Gr.refl _).alloc _).below
  go_enter Try.func83, Try.ntmps83
  go_wp2_with fail
  refine (O.out _).mono ?_
  rintro e w1 ⟨z, rfl, hz, hb1⟩
  obtain ⟨r, ao, la, ca, rfl, hz'⟩ := hz.shape
  replace k0 := k0.mono hb1 k0.lt
  replace hb0 := hb0.trans (hb1.mono hb0.size)
  have q0 := k0.c0
  have q1 := k0.c1
  have q2 := k0.f0
  have q3 := k0.f1
  clear hz O
  go_wp2
  refine bodyPost_ret (v := .agg #[.bool r, .slice ao la ca]) (by simp [results, Try.results83, go_sem, q0, q1]) rfl ⟨_, rfl, ?_, ?_⟩
  · exact (hz'.out.setBk k0 _).setBk (k0.set0 _) _
  · exact (hb0.setCell (by simp only []; omega) _).setCell (by simp only []; omega) _

theorem small_dif {a b : Int} (ha : in32 a) (hb : in32 b) : small (a - b) := small_256 (by unfold in32 at *; omega) (by unfold in32 at *; omega)
theorem bd_prod {a b c d : Int} (ha : in32 a) (hb : in32 b) (hc : in32 c) (hd : in32 d) : -(4294967296 * 4294967296) ≤ (a - b) * (c - d) ∧ (a - b) * (c - d) ≤ 4294967296 * 4294967296 := by
  have x : (a - b).natAbs ≤ 4294967296 := by unfold in32 at *; omega
  have y : (c - d).natAbs ≤ 4294967296 := by unfold in32 at *; omega
  have z : ((a - b) * (c - d)).natAbs ≤ 4294967296 * 4294967296 := by rw [Int.natAbs_mul]; exact Nat.mul_le_mul x y
  omega
theorem small_prod {a b c d : Int} (ha : in32 a) (hb : in32 b) (hc : in32 c) (hd : in32 d) : small ((a - b) * (c - d)) := by
  have h := bd_prod ha hb hc hd
  exact small_256 (by omega) (by omega)

set_option maxRecDepth 20000 in
set_option maxHeartbeats 4000000 in
theorem rcross_num (ox oy ax ay bx by_ : Int) (h0 : in32 ox) (h1 : in32 oy) (h2 : in32 ax) (h3 : in32 ay) (h4 : in32 bx) (h5 : in32 by_) (w : World) :
    Calls Try.prog 53 #[pt ox oy, pt ax ay, pt bx by_] w fun e w' => ∃ z, e = .returned z ∧ Nm w' z ((ax - ox) * (by_ - oy) - (ay - oy) * (bx - ox)) ∧ Below w.heap.size w w' := by
  have sm1 : Hid (small (ax - ox)) := small_dif h2 h0
  have sm2 : Hid (small (by_ - oy)) := small_dif h5 h1
  have sm4 : Hid (small (ay - oy)) := small_dif h3 h1
  have sm5 : Hid (small (bx - ox)) := small_dif h4 h0
  have sm3 : Hid (small ((ax - ox) * (by_ - oy))) := small_prod h2 h0 h5 h1
  have sm6 : Hid (small ((ay - oy) * (bx - ox))) := small_prod h3 h1 h4 h0
  replace h0 : Hid (in32 ox) := h0
  replace h1 : Hid (in32 oy) := h1
  replace h2 : Hid (in32 ax) := h2
  replace h3 : Hid (in32 ay) := h3
  replace h4 : Hid (in32 bx) := h4
  replace h5 : Hid (in32 by_) := h5
  have hbl : Below w.heap.size w ((((w.alloc (.cells #[.int .i32 ox, .int .i32 oy] 28)).alloc (.cells #[.int .i32 ax, .int .i32 ay] 28)).alloc (.cells #[.int .i32 bx, .int .i32 by_] 28)).alloc (.cells #[.bool false, .slice none 0 0] 53)).drew := ((((((Gr.refl _).alloc _).alloc _).alloc _).alloc _).drew).below
  have kR : Bk ((((w.alloc (.cells #[.int .i32 ox, .int .i32 oy] 28)).alloc (.cells #[.int .i32 ax, .int .i32 ay] 28)).alloc (.cells #[.int .i32 bx, .int .i32 by_] 28)).alloc (.cells #[.bool false, .slice none 0 0] 53)).drew (w.heap.size + 1 + 1 + 1) (.bool false) (.slice none 0 0) := by
    have h := (Bk.new (((w.alloc (.cells #[.int .i32 ox, .int .i32 oy] 28)).alloc (.cells #[.int .i32 ax, .int .i32 ay] 28)).alloc (.cells #[.int .i32 bx, .int .i32 by_] 28)) (.bool false) (.slice none 0 0)).mono ((Gr.refl _).drew).below (by simp)
    simpa using h
  go_enter Try.func53, Try.ntmps53
  go_upto_region 1 with fail
  have c0 : ((((w.alloc (.cells #[.int .i32 ox, .int .i32 oy] 28)).alloc (.cells #[.int .i32 ax, .int .i32 ay] 28)).alloc (.cells #[.int .i32 bx, .int .i32 by_] 28)).alloc (.cells #[.bool false, .slice none 0 0] 53)).cell? ⟨w.heap.size, 0, none⟩ = some (.int .i32 ox) := by go_simp
  have c1 : ((((w.alloc (.cells #[.int .i32 ox, .int .i32 oy] 28)).alloc (.cells #[.int .i32 ax, .int .i32 ay] 28)).alloc (.cells #[.int .i32 bx, .int .i32 by_] 28)).alloc (.cells #[.bool false, .slice none 0 0] 53)).cell? ⟨w.heap.size, 1, none⟩ = some (.int .i32 oy) := by go_simp
  have c2 : ((((w.alloc (.cells #[.int .i32 ox, .int .i32 oy] 28)).alloc (.cells #[.int .i32 ax, .int .i32 ay] 28)).alloc (.cells #[.int .i32 bx, .int .i32 by_] 28)).alloc (.cells #[.bool false, .slice none 0 0] 53)).cell? ⟨w.heap.size + 1, 0, none⟩ = some (.int .i32 ax) := by go_simp
  have c3 : ((((w.alloc (.cells #[.int .i32 ox, .int .i32 oy] 28)).alloc (.cells #[.int .i32 ax, .int .i32 ay] 28)).alloc (.cells #[.int .i32 bx, .int .i32 by_] 28)).alloc (.cells #[.bool false, .slice none 0 0] 53)).cell? ⟨w.heap.size + 1, 1, none⟩ = some (.int .i32 ay) := by go_simp
  have c4 : ((((w.alloc (.cells #[.int .i32 ox, .int .i32 oy] 28)).alloc (.cells #[.int .i32 ax, .int .i32 ay] 28)).alloc (.cells #[.int .i32 bx, .int .i32 by_] 28)).alloc (.cells #[.bool false, .slice none 0 0] 53)).cell? ⟨w.heap.size + 1 + 1, 0, none⟩ = some (.int .i32 bx) := by go_simp
  have c5 : ((((w.alloc (.cells #[.int .i32 ox, .int .i32 oy] 28)).alloc (.cells #[.int .i32 ax, .int .i32 ay] 28)).alloc (.cells #[.int .i32 bx, .int .i32 by_] 28)).alloc (.cells #[.bool false, .slice none 0 0] 53)).cell? ⟨w.heap.size + 1 + 1, 1, none⟩ = some (.int .i32 by_) := by go_simp
  generalize (((w.alloc (.cells #[.int .i32 ox, .int .i32 oy] 28)).alloc (.cells #[.int .i32 ax, .int .i32 ay] 28)).alloc (.cells #[.int .i32 bx, .int .i32 by_] 28)).alloc (.cells #[.bool false, .slice none 0 0] 53) = W at *
  have hK : w.heap.size + 1 + 1 + 1 ≤ W.heap.size := Nat.le_of_lt (by simpa using kR.lt)
  go_region_held3 (S6 ⟨w.heap.size, 0, none⟩ ⟨w.heap.size, 1, none⟩ ⟨w.heap.size + 1, 0, none⟩ ⟨w.heap.size + 1, 1, none⟩ ⟨w.heap.size + 1 + 1, 0, none⟩ ⟨w.heap.size + 1 + 1, 1, none⟩ (.int .i32 ox) (.int .i32 oy) (.int .i32 ax) (.int .i32 ay) (.int .i32 bx) (.int .i32 by_) (w.heap.size + 1 + 1 + 1) W)
    (first
      | exact ⟨c0, c1, c2, c3, c4, c5, (Below.refl _ _).drew⟩
      | (refine S6.set (S6.set ?_ ?_ ?_ ?_ ?_ ?_ ?_ ?_ _) ?_ ?_ ?_ ?_ ?_ ?_ ?_ _ <;> first | assumption | (simp only []; omega))
      | exact S6.call (by assumption) hK (by assumption))
    (first
      | (go_at_call_of 83 ax; refine (rway_num ox ax h0.out h2.out _).mono ?_; rintro e w1 ⟨z, rfl, hz1, hb1⟩; obtain ⟨r1, o1, l1, c1, rfl, hz1'⟩ := hz1.shape; clear hz1; replace kR := kR.mono hb1 kR.lt; replace hbl := hbl.trans (hb1.mono hbl.size))
      | (go_at_call_of 83 by_; refine (rway_num oy by_ h1.out h5.out _).mono ?_; rintro e w2 ⟨z, rfl, hz2, hb2⟩; obtain ⟨r2, o2, l2, c2, rfl, hz2'⟩ := hz2.shape; clear hz2; replace kR := kR.mono hb2 kR.lt; replace hbl := hbl.trans (hb2.mono hbl.size); replace hz1' := hmono hz1' hb2)
      | (go_at_call_of 82 o1; refine (mul_num _ _ _ _ _ hz1'.out hz2'.out sm1.out sm2.out).mono ?_; rintro e w3 ⟨z, rfl, hz3, hb3⟩; obtain ⟨r3, o3, l3, c3, rfl, hz3'⟩ := hz3.shape; clear hz3; replace kR := kR.mono hb3 kR.lt; replace hbl := hbl.trans (hb3.mono hbl.size))
      | (go_at_call_of 83 ay; refine (rway_num oy ay h1.out h3.out _).mono ?_; rintro e w4 ⟨z, rfl, hz4, hb4⟩; obtain ⟨r4, o4, l4, c4, rfl, hz4'⟩ := hz4.shape; clear hz4; replace kR := kR.mono hb4 kR.lt; replace hbl := hbl.trans (hb4.mono hbl.size); replace hz3' := hmono hz3' hb4)
      | (go_at_call_of 83 bx; refine (rway_num ox bx h0.out h4.out _).mono ?_; rintro e w5 ⟨z, rfl, hz5, hb5⟩; obtain ⟨r5, o5, l5, c5, rfl, hz5'⟩ := hz5.shape; clear hz5; replace kR := kR.mono hb5 kR.lt; replace hbl := hbl.trans (hb5.mono hbl.size); replace hz3' := hmono hz3' hb5; replace hz4' := hmono hz4' hb5)
      | (go_at_call_of 82 o4; refine (mul_num _ _ _ _ _ hz4'.out hz5'.out sm4.out sm5.out).mono ?_; rintro e w6 ⟨z, rfl, hz6, hb6⟩; obtain ⟨r6, o6, l6, c6, rfl, hz6'⟩ := hz6.shape; clear hz6; replace kR := kR.mono hb6 kR.lt; replace hbl := hbl.trans (hb6.mono hbl.size); replace hz3' := hmono hz3' hb6)
      | (go_at_call 81; refine (sub_num _ _ _ _ _ hz3'.out hz6'.out sm3.out sm6.out).mono ?_; rintro e w7 ⟨z, rfl, hz7, hb7⟩; obtain ⟨r7, o7, l7, c7, rfl, hz7'⟩ := hz7.shape; clear hz7; replace kR := kR.mono hb7 kR.lt; replace hbl := hbl.trans (hb7.mono hbl.size); have q0 := kR.c0; have q1 := kR.c1; have q2 := kR.f0; have q3 := kR.f1))
  go_wp2
  refine bodyPost_ret (v := .agg #[.bool r7, .slice o7 l7 c7]) (by simp [results, Try.results53, go_sem, q0, q1]) rfl ⟨_, rfl, ?_, ?_⟩
  · exact (hz7'.out.setBk kR _).setBk (kR.set0 _) _
  · exact (hbl.setCell (by simp only []; omega) _).setCell (by simp only []; omega) _

set_option maxRecDepth 20000 in
set_option maxHeartbeats 4000000 in
theorem rdot_num (ox oy ax ay bx by_ : Int) (h0 : in32 ox) (h1 : in32 oy) (h2 : in32 ax) (h3 : in32 ay) (h4 : in32 bx) (h5 : in32 by_) (w : World) :
    Calls Try.prog 71 #[pt ox oy, pt ax ay, pt bx by_] w fun e w' => ∃ z, e = .returned z ∧ Nm w' z ((ax - ox) * (bx - ox) + (ay - oy) * (by_ - oy)) ∧ Below w.heap.size w w' := by
  have sm1 : Hid (small (ax - ox)) := small_dif h2 h0
  have sm2 : Hid (small (bx - ox)) := small_dif h4 h0
  have sm4 : Hid (small (ay - oy)) := small_dif h3 h1
  have sm5 : Hid (small (by_ - oy)) := small_dif h5 h1
  have sm3 : Hid (small ((ax - ox) * (bx - ox))) := small_prod h2 h0 h4 h0
  have sm6 : Hid (small ((ay - oy) * (by_ - oy))) := small_prod h3 h1 h5 h1
  replace h0 : Hid (in32 ox) := h0
  replace h1 : Hid (in32 oy) := h1
  replace h2 : Hid (in32 ax) := h2
  replace h3 : Hid (in32 ay) := h3
  replace h4 : Hid (in32 bx) := h4
  replace h5 : Hid (in32 by_) := h5
  have hbl : Below w.heap.size w ((((w.alloc (.cells #[.int .i32 ox, .int .i32 oy] 28)).alloc (.cells #[.int .i32 ax, .int .i32 ay] 28)).alloc (.cells #[.int .i32 bx, .int .i32 by_] 28)).alloc (.cells #[.bool false, .slice none 0 0] 53)).drew := ((((((Gr.refl _).alloc _).alloc _).alloc _).alloc _).drew).below
  have kR : Bk ((((w.alloc (.cells #[.int .i32 ox, .int .i32 oy] 28)).alloc (.cells #[.int .i32 ax, .int .i32 ay] 28)).alloc (.cells #[.int .i32 bx, .int .i32 by_] 28)).alloc (.cells #[.bool false, .slice none 0 0] 53)).drew (w.heap.size + 1 + 1 + 1) (.bool false) (.slice none 0 0) := by
    have h := (Bk.new (((w.alloc (.cells #[.int .i32 ox, .int .i32 oy] 28)).alloc (.cells #[.int .i32 ax, .int .i32 ay] 28)).alloc (.cells #[.int .i32 bx, .int .i32 by_] 28)) (.bool false) (.slice none 0 0)).mono ((Gr.refl _).drew).below (by simp)
    simpa using h
  go_enter Try.func71, Try.ntmps71
  go_upto_region 1 with fail
  have c0 : ((((w.alloc (.cells #[.int .i32 ox, .int .i32 oy] 28)).alloc (.cells #[.int .i32 ax, .int .i32 ay] 28)).alloc (.cells #[.int .i32 bx, .int .i32 by_] 28)).alloc (.cells #[.bool false, .slice none 0 0] 53)).cell? ⟨w.heap.size, 0, none⟩ = some (.int .i32 ox) := by go_simp
  have c1 : ((((w.alloc (.cells #[.int .i32 ox, .int .i32 oy] 28)).alloc (.cells #[.int .i32 ax, .int .i32 ay] 28)).alloc (.cells #[.int .i32 bx, .int .i32 by_] 28)).alloc (.cells #[.bool false, .slice none 0 0] 53)).cell? ⟨w.heap.size, 1, none⟩ = some (.int .i32 oy) := by go_simp
  have c2 : ((((w.alloc (.cells #[.int .i32 ox, .int .i32 oy] 28)).alloc (.cells #[.int .i32 ax, .int .i32 ay] 28)).alloc (.cells #[.int .i32 bx, .int .i32 by_] 28)).alloc (.cells #[.bool false, .slice none 0 0] 53)).cell? ⟨w.heap.size + 1, 0, none⟩ = some (.int .i32 ax) := by go_simp
  have c3 : ((((w.alloc (.cells #[.int .i32 ox, .int .i32 oy] 28)).alloc (.cells #[.int .i32 ax, .int .i32 ay] 28)).alloc (.cells #[.int .i32 bx, .int .i32 by_] 28)).alloc (.cells #[.bool false, .slice none 0 0] 53)).cell? ⟨w.heap.size + 1, 1, none⟩ = some (.int .i32 ay) := by go_simp
  have c4 : ((((w.alloc (.cells #[.int .i32 ox, .int .i32 oy] 28)).alloc (.cells #[.int .i32 ax, .int .i32 ay] 28)).alloc (.cells #[.int .i32 bx, .int .i32 by_] 28)).alloc (.cells #[.bool false, .slice none 0 0] 53)).cell? ⟨w.heap.size + 1 + 1, 0, none⟩ = some (.int .i32 bx) := by go_simp
  have c5 : ((((w.alloc (.cells #[.int .i32 ox, .int .i32 oy] 28)).alloc (.cells #[.int .i32 ax, .int .i32 ay] 28)).alloc (.cells #[.int .i32 bx, .int .i32 by_] 28)).alloc (.cells #[.bool false, .slice none 0 0] 53)).cell? ⟨w.heap.size + 1 + 1, 1, none⟩ = some (.int .i32 by_) := by go_simp
  generalize (((w.alloc (.cells #[.int .i32 ox, .int .i32 oy] 28)).alloc (.cells #[.int .i32 ax, .int .i32 ay] 28)).alloc (.cells #[.int .i32 bx, .int .i32 by_] 28)).alloc (.cells #[.bool false, .slice none 0 0] 53) = W at *
  have hK : w.heap.size + 1 + 1 + 1 ≤ W.heap.size := Nat.le_of_lt (by simpa using kR.lt)
  go_region_held3 (S6 ⟨w.heap.size, 0, none⟩ ⟨w.heap.size, 1, none⟩ ⟨w.heap.size + 1, 0, none⟩ ⟨w.heap.size + 1, 1, none⟩ ⟨w.heap.size + 1 + 1, 0, none⟩ ⟨w.heap.size + 1 + 1, 1, none⟩ (.int .i32 ox) (.int .i32 oy) (.int .i32 ax) (.int .i32 ay) (.int .i32 bx) (.int .i32 by_) (w.heap.size + 1 + 1 + 1) W)
    (first
      | exact ⟨c0, c1, c2, c3, c4, c5, (Below.refl _ _).drew⟩
      | (refine S6.set (S6.set ?_ ?_ ?_ ?_ ?_ ?_ ?_ ?_ _) ?_ ?_ ?_ ?_ ?_ ?_ ?_ _ <;> first | assumption | (simp only []; omega))
      | exact S6.call (by assumption) hK (by assumption))
    (first
      | (go_at_call_of 83 ax; refine (rway_num ox ax h0.out h2.out _).mono ?_; rintro e w1 ⟨z, rfl, hz1, hb1⟩; obtain ⟨r1, o1, l1, c1, rfl, hz1'⟩ := hz1.shape; clear hz1; replace kR := kR.mono hb1 kR.lt; replace hbl := hbl.trans (hb1.mono hbl.size))
      | (go_at_call_of 83 bx; refine (rway_num ox bx h0.out h4.out _).mono ?_; rintro e w2 ⟨z, rfl, hz2, hb2⟩; obtain ⟨r2, o2, l2, c2, rfl, hz2'⟩ := hz2.shape; clear hz2; replace kR := kR.mono hb2 kR.lt; replace hbl := hbl.trans (hb2.mono hbl.size); replace hz1' := hmono hz1' hb2)
      | (go_at_call_of 82 o1; refine (mul_num _ _ _ _ _ hz1'.out hz2'.out sm1.out sm2.out).mono ?_; rintro e w3 ⟨z, rfl, hz3, hb3⟩; obtain ⟨r3, o3, l3, c3, rfl, hz3'⟩ := hz3.shape; clear hz3; replace kR := kR.mono hb3 kR.lt; replace hbl := hbl.trans (hb3.mono hbl.size))
      | (go_at_call_of 83 ay; refine (rway_num oy ay h1.out h3.out _).mono ?_; rintro e w4 ⟨z, rfl, hz4, hb4⟩; obtain ⟨r4, o4, l4, c4, rfl, hz4'⟩ := hz4.shape; clear hz4; replace kR := kR.mono hb4 kR.lt; replace hbl := hbl.trans (hb4.mono hbl.size); replace hz3' := hmono hz3' hb4)
      | (go_at_call_of 83 by_; refine (rway_num oy by_ h1.out h5.out _).mono ?_; rintro e w5 ⟨z, rfl, hz5, hb5⟩; obtain ⟨r5, o5, l5, c5, rfl, hz5'⟩ := hz5.shape; clear hz5; replace kR := kR.mono hb5 kR.lt; replace hbl := hbl.trans (hb5.mono hbl.size); replace hz3' := hmono hz3' hb5; replace hz4' := hmono hz4' hb5)
      | (go_at_call_of 82 o4; refine (mul_num _ _ _ _ _ hz4'.out hz5'.out sm4.out sm5.out).mono ?_; rintro e w6 ⟨z, rfl, hz6, hb6⟩; obtain ⟨r6, o6, l6, c6, rfl, hz6'⟩ := hz6.shape; clear hz6; replace kR := kR.mono hb6 kR.lt; replace hbl := hbl.trans (hb6.mono hbl.size); replace hz3' := hmono hz3' hb6)
      | (go_at_call 101; refine (add_num _ _ _ _ _ hz3'.out hz6'.out sm3.out sm6.out).mono ?_; rintro e w7 ⟨z, rfl, hz7, hb7⟩; obtain ⟨r7, o7, l7, c7, rfl, hz7'⟩ := hz7.shape; clear hz7; replace kR := kR.mono hb7 kR.lt; replace hbl := hbl.trans (hb7.mono hbl.size); have q0 := kR.c0; have q1 := kR.c1; have q2 := kR.f0; have q3 := kR.f1))
  go_wp2
  refine bodyPost_ret (v := .agg #[.bool r7, .slice o7 l7 c7]) (by simp [results, Try.results71, go_sem, q0, q1]) rfl ⟨_, rfl, ?_, ?_⟩
  · exact (hz7'.out.setBk kR _).setBk (kR.set0 _) _
  · exact (hbl.setCell (by simp only []; omega) _).setCell (by simp only []; omega) _
end
end Go.Proofs.Ytljdnahomhbenaa
