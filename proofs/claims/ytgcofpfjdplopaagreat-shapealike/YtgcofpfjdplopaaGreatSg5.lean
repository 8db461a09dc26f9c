/- Contract of what the ends of two segments show. -/
import Derived.Test.YtgcofpfjdplopaaGreatSg4
namespace Go.Proofs.YtgcofpfjdplopaaGreat
section
open Go.RowKit Go.Sort

/-- A meeting as the ends show it. -/
def okM (m : Mt) : Prop := m = mt0 ∨ (∃ f, m = oneM f ∧ frOk f) ∨ (∃ f g, m = (2, false, f, g) ∧ frOk f ∧ frOk g)
theorem wid_any (m : Mt) (t : Fr) (w : World) (hm : okM m) (ht : frOk t) : Calls Tryz.prog 141 #[mtv m, frv t] w fun e w' => e = .returned (mtv (widM m t)) ∧ Gr w w' := by
  rcases hm with rfl | ⟨f, rfl, hf⟩ | ⟨f, g, rfl, hf, hg⟩
  · rw [wid_zero]; exact widz_any t w
  · by_cases h : f = t
    · subst h; rw [wid_one]; exact wids_any f w
    · have e : widM (oneM f) t = (2, false, (if ltF t f then t else f), (if ltF f t then t else f)) := by
        unfold widM; rw [if_neg (by rw [not_or]; exact ⟨one_ne f, fun k => h (one_inj.mp k)⟩)]; rfl
      rw [e]; exact wido_any f t w hf ht h
  · have e : widM (2, false, f, g) t = (2, false, (if ltF t f then t else f), (if ltF g t then t else g)) := by
      unfold widM; rw [if_neg (by rw [not_or]; exact ⟨two_ne f g, two_one f g t⟩)]
    rw [e]; exact widt_any f g t w hf hg ht
theorem wid_ok {m : Mt} {t : Fr} (hm : okM m) (ht : frOk t) : okM (widM m t) := by
  have pick : ∀ (B : Bool) (x y : Fr), frOk x → frOk y → frOk (if B then x else y) := fun B x y hx hy => by cases B <;> simp [hx, hy]
  rcases hm with rfl | ⟨f, rfl, hf⟩ | ⟨f, g, rfl, hf, hg⟩
  · rw [wid_zero]; exact Or.inr (Or.inl ⟨t, rfl, ht⟩)
  · by_cases h : f = t
    · subst h; rw [wid_one]; exact Or.inr (Or.inl ⟨f, rfl, hf⟩)
    · have e : widM (oneM f) t = (2, false, (if ltF t f then t else f), (if ltF f t then t else f)) := by
        unfold widM; rw [if_neg (by rw [not_or]; exact ⟨one_ne f, fun k => h (one_inj.mp k)⟩)]; rfl
      rw [e]; exact Or.inr (Or.inr ⟨_, _, rfl, pick _ _ _ ht hf, pick _ _ _ ht hf⟩)
  · have e : widM (2, false, f, g) t = (2, false, (if ltF t f then t else f), (if ltF g t then t else g)) := by
      unfold widM; rw [if_neg (by rw [not_or]; exact ⟨two_ne f g, two_one f g t⟩)]
    rw [e]; exact Or.inr (Or.inr ⟨_, _, rfl, pick _ _ _ ht hf, pick _ _ _ ht hg⟩)
theorem foot_any (p a b : P2) (hp : lat p) (ha : lat a) (hb : lat b) (w : World) : Calls Tryz.prog 142 #[ptv p, ptv a, ptv b] w fun e w' => e = .returned (frv (footF p a b)) ∧ Gr w w' := by
  by_cases h : a = b
  · subst h; exact foot_same p a w
  · exact foot_two p a b hp ha hb h w
theorem low_ok {n d : Int} (h0 : -9223372036854775807 ≤ n ∧ n ≤ 9223372036854775807) (h1 : -9223372036854775807 ≤ d ∧ d ≤ 9223372036854775807) : frOk (lowF n d) := by
  have t : ∀ x k : Int, (Int.tdiv x k).natAbs ≤ x.natAbs := fun x k => Int.natAbs_tdiv_le_natAbs x k
  have a := t n (sgI d * (Int.gcd n d : Int))
  have b := t d (sgI d * (Int.gcd n d : Int))
  unfold frOk lowF
  simp only
  omega
theorem foot_ok {p a b : P2} (hp : lat p) (ha : lat a) (hb : lat b) : frOk (footF p a b) := by
  unfold footF
  by_cases h : a = b
  · rw [if_pos h]; unfold frOk; simp
  · rw [if_neg h]
    have n := dd_pos h
    have nb := dd_bd ha hb
    have tb := dtt_bd ha hb hp
    exact low_ok (by unfold clampT; omega) (by omega)

/-- Six cells. -/
abbrev S6 (a0 a1 a2 a3 a4 a5 : Addr) (x0 x1 x2 x3 x4 x5 : Value) (w : World) : Prop :=
  w.cell? a0 = some x0 ∧ w.cell? a1 = some x1 ∧ w.cell? a2 = some x2 ∧ w.cell? a3 = some x3 ∧ w.cell? a4 = some x4 ∧ w.cell? a5 = some x5
theorem S6.gr {a0 a1 a2 a3 a4 a5 : Addr} {x0 x1 x2 x3 x4 x5 : Value} {w w' : World} (h : S6 a0 a1 a2 a3 a4 a5 x0 x1 x2 x3 x4 x5 w) (g : Gr w w') : S6 a0 a1 a2 a3 a4 a5 x0 x1 x2 x3 x4 x5 w' :=
  ⟨below_cell h.1 g.below, below_cell h.2.1 g.below, below_cell h.2.2.1 g.below, below_cell h.2.2.2.1 g.below, below_cell h.2.2.2.2.1 g.below, below_cell h.2.2.2.2.2 g.below⟩
theorem S6.set {a0 a1 a2 a3 a4 a5 : Addr} {x0 x1 x2 x3 x4 x5 : Value} {w : World} (h : S6 a0 a1 a2 a3 a4 a5 x0 x1 x2 x3 x4 x5 w) {p : Addr} (h0 : p.block ≠ a0.block) (h1 : p.block ≠ a1.block) (h2 : p.block ≠ a2.block) (h3 : p.block ≠ a3.block) (h4 : p.block ≠ a4.block) (h5 : p.block ≠ a5.block) (z : Value) : S6 a0 a1 a2 a3 a4 a5 x0 x1 x2 x3 x4 x5 (w.setCell p z) :=
  have f : ∀ a v, p.block ≠ a.block → w.cell? a = some v → (w.setCell p z).cell? a = some v := fun a _ n e => (World.cell?_setCell_far w p a z n).trans e
  ⟨f _ _ h0 h.1, f _ _ h1 h.2.1, f _ _ h2 h.2.2.1, f _ _ h3 h.2.2.2.1, f _ _ h4 h.2.2.2.2.1, f _ _ h5 h.2.2.2.2.2⟩
theorem TwoIs.other {W : World} {b : Nat} {x y : Int} (h : TwoIs W b x y) {p : Addr} (n : p.block ≠ b) (z : Value) : TwoIs (W.setCell p z) b x y :=
  ⟨(World.cell?_setCell_far W p ⟨b, 0, none⟩ z n).trans h.c0, (World.cell?_setCell_far W p ⟨b, 1, none⟩ z n).trans h.c1⟩
theorem TwoIs.lt {W : World} {b : Nat} {x y : Int} (h : TwoIs W b x y) : b < W.heap.size := World.block_lt_of_cell? _ _ h.c0
theorem hid {p : Prop} (h : p) : Hid p := h
theorem ix0 (ax ay bx by_ cx cy dx dy : Int) (w : World) : (Instr.index 178 (.agg #[.int .i32 ax, .int .i32 ay, .int .i32 bx, .int .i32 by_, .int .i32 cx, .int .i32 cy, .int .i32 dx, .int .i32 dy]) (.int .i64 0)).run Tryz.prog w = .ok (.agg #[.int .i32 ax, .int .i32 ay]) w := by kernel_rfl
theorem ix1 (ax ay bx by_ cx cy dx dy : Int) (w : World) : (Instr.index 178 (.agg #[.int .i32 ax, .int .i32 ay, .int .i32 bx, .int .i32 by_, .int .i32 cx, .int .i32 cy, .int .i32 dx, .int .i32 dy]) (.int .i64 1)).run Tryz.prog w = .ok (.agg #[.int .i32 bx, .int .i32 by_]) w := by kernel_rfl
theorem ix2 (ax ay bx by_ cx cy dx dy : Int) (w : World) : (Instr.index 178 (.agg #[.int .i32 ax, .int .i32 ay, .int .i32 bx, .int .i32 by_, .int .i32 cx, .int .i32 cy, .int .i32 dx, .int .i32 dy]) (.int .i64 2)).run Tryz.prog w = .ok (.agg #[.int .i32 cx, .int .i32 cy]) w := by kernel_rfl
theorem ix3 (ax ay bx by_ cx cy dx dy : Int) (w : World) : (Instr.index 178 (.agg #[.int .i32 ax, .int .i32 ay, .int .i32 bx, .int .i32 by_, .int .i32 cx, .int .i32 cy, .int .i32 dx, .int .i32 dy]) (.int .i64 3)).run Tryz.prog w = .ok (.agg #[.int .i32 dx, .int .i32 dy]) w := by kernel_rfl
theorem six {W : World} {X b : Nat} {x y : Int} {z0 z1 z2 z3 z4 z5 : Value} (n : X ≠ b) (h : TwoIs W b x y) : TwoIs ((((((W.setCell ⟨X, 0, none⟩ z0).setCell ⟨X, 1, none⟩ z1).setCell ⟨X, 2, none⟩ z2).setCell ⟨X, 3, none⟩ z3).setCell ⟨X, 4, none⟩ z4).setCell ⟨X, 5, none⟩ z5) b x y :=
  (((((h.other n _).other n _).other n _).other n _).other n _).other n _
theorem sixR {W : World} {X b : Nat} {x0 x1 x2 x3 x4 x5 : Value} {z0 z1 z2 z3 z4 z5 : Value} (n : b ≠ X) (h : M6 W b x0 x1 x2 x3 x4 x5) : M6 ((((((W.setCell ⟨X, 0, none⟩ z0).setCell ⟨X, 1, none⟩ z1).setCell ⟨X, 2, none⟩ z2).setCell ⟨X, 3, none⟩ z3).setCell ⟨X, 4, none⟩ z4).setCell ⟨X, 5, none⟩ z5) b x0 x1 x2 x3 x4 x5 :=
  (((((h.other n _).other n _).other n _).other n _).other n _).other n _
theorem sixG {w W : World} {X : Nat} {z0 z1 z2 z3 z4 z5 : Value} (n : w.heap.size ≤ X) (h : Gr w W) : Gr w ((((((W.setCell ⟨X, 0, none⟩ z0).setCell ⟨X, 1, none⟩ z1).setCell ⟨X, 2, none⟩ z2).setCell ⟨X, 3, none⟩ z3).setCell ⟨X, 4, none⟩ z4).setCell ⟨X, 5, none⟩ z5) :=
  (((((h.setCell n _).setCell n _).setCell n _).setCell n _).setCell n _).setCell n _
def stK (a b c d : P2) : Nat → Mt
  | 0 => mt0
  | 1 => stepM a b c d mt0 a
  | 2 => stepM a b c d (stepM a b c d mt0 a) b
  | 3 => stepM a b c d (stepM a b c d (stepM a b c d mt0 a) b) c
  | _ => endsM a b c d

set_option maxRecDepth 20000 in
set_option maxHeartbeats 4000000 in
theorem ends_any (a b c d : P2) (la : lat a) (lb : lat b) (lc : lat c) (ld : lat d) (w : World) :
    Calls Tryz.prog 135 #[endv a b c d] w fun e w' => e = .returned (mtv (endsM a b c d)) ∧ Gr w w' := by
  obtain ⟨ax, ay⟩ := a
  obtain ⟨bx, by_⟩ := b
  obtain ⟨cx, cy⟩ := c
  obtain ⟨dx, dy⟩ := d
  show Calls Tryz.prog 135 #[.agg #[.int .i32 ax, .int .i32 ay, .int .i32 bx, .int .i32 by_, .int .i32 cx, .int .i32 cy, .int .i32 dx, .int .i32 dy]] w _
  go_enter Tryz.func135, Tryz.ntmps135
  go_upto_region 1 with fail
  have hE : E8 ((w.alloc (.cells #[.int .i32 ax, .int .i32 ay, .int .i32 bx, .int .i32 by_, .int .i32 cx, .int .i32 cy, .int .i32 dx, .int .i32 dy] 178)).alloc (.cells #[.int .u8 0, .bool false, .int .i64 0, .int .i64 0, .int .i64 0, .int .i64 0] 173)) w.heap.size (.int .i32 ax) (.int .i32 ay) (.int .i32 bx) (.int .i32 by_) (.int .i32 cx) (.int .i32 cy) (.int .i32 dx) (.int .i32 dy) := (E8.new w (.int .i32 ax) (.int .i32 ay) (.int .i32 bx) (.int .i32 by_) (.int .i32 cx) (.int .i32 cy) (.int .i32 dx) (.int .i32 dy)).gr ((Gr.refl _).alloc _)
  have hR : M6 ((w.alloc (.cells #[.int .i32 ax, .int .i32 ay, .int .i32 bx, .int .i32 by_, .int .i32 cx, .int .i32 cy, .int .i32 dx, .int .i32 dy] 178)).alloc (.cells #[.int .u8 0, .bool false, .int .i64 0, .int .i64 0, .int .i64 0, .int .i64 0] 173)) (w.heap.size + 1) (.int .u8 0) (.bool false) (.int .i64 0) (.int .i64 0) (.int .i64 0) (.int .i64 0) := by
    have := M6.new (w.alloc (.cells #[.int .i32 ax, .int .i32 ay, .int .i32 bx, .int .i32 by_, .int .i32 cx, .int .i32 cy, .int .i32 dx, .int .i32 dy] 178)) (.int .u8 0) (.bool false) (.int .i64 0) (.int .i64 0) (.int .i64 0) (.int .i64 0)
    simpa using this
  have hG : Gr w ((w.alloc (.cells #[.int .i32 ax, .int .i32 ay, .int .i32 bx, .int .i32 by_, .int .i32 cx, .int .i32 cy, .int .i32 dx, .int .i32 dy] 178)).alloc (.cells #[.int .u8 0, .bool false, .int .i64 0, .int .i64 0, .int .i64 0, .int .i64 0] 173)) := ((Gr.refl _).alloc _).alloc _
  generalize ((w.alloc (.cells #[.int .i32 ax, .int .i32 ay, .int .i32 bx, .int .i32 by_, .int .i32 cx, .int .i32 cy, .int .i32 dx, .int .i32 dy] 178)).alloc (.cells #[.int .u8 0, .bool false, .int .i64 0, .int .i64 0, .int .i64 0, .int .i64 0] 173)) = W at *
  go_cut [3, 4, 5, 6] (fun s3 s4 s5 s6 w' => ∃ X3 X4 X5 X6, s3 = .pointer (some ⟨X3, 0, none⟩) ∧ s4 = .pointer (some ⟨X4, 0, none⟩) ∧ s5 = .pointer (some ⟨X5, 0, none⟩) ∧ s6 = .pointer (some ⟨X6, 0, none⟩) ∧ TwoIs w' X3 ax ay ∧ TwoIs w' X4 bx by_ ∧ TwoIs w' X5 cx cy ∧ TwoIs w' X6 dx dy ∧ Gr W w')
  case first =>
    as_aux_lemma =>
    have hS0 : Hid (SE w.heap.size (.int .i32 ax) (.int .i32 ay) (.int .i32 bx) (.int .i32 by_) (.int .i32 cx) (.int .i32 cy) (.int .i32 dx) (.int .i32 dy) W.drew) := hE.se
    have hSW : Hid (SE w.heap.size (.int .i32 ax) (.int .i32 ay) (.int .i32 bx) (.int .i32 by_) (.int .i32 cx) (.int .i32 cy) (.int .i32 dx) (.int .i32 dy) W) := hE.se
    have hlt := hE.lt
    go_region_held3 (SE w.heap.size (.int .i32 ax) (.int .i32 ay) (.int .i32 bx) (.int .i32 by_) (.int .i32 cx) (.int .i32 cy) (.int .i32 dx) (.int .i32 dy))
      (repeat (first | with_reducible exact hS0.out | with_reducible exact hSW.out | with_reducible refine SE.drew ?_ | with_reducible refine SE.alloc ?_ _ | (with_reducible refine SE.set ?_ (by simp only []; omega) _)))
      (fail)
    all_goals
      go_wp2
      go_meet
      case rel =>
        exact ⟨_, _, _, _, rfl, rfl, rfl, rfl, by (first | with_reducible exact four0 _ _ _ _ _ _ _ _ _ | with_reducible exact four1 _ _ _ _ _ _ _ _ _ | with_reducible exact four2 _ _ _ _ _ _ _ _ _ | with_reducible exact four3 _ _ _ _ _ _ _ _ _), by (first | with_reducible exact four0 _ _ _ _ _ _ _ _ _ | with_reducible exact four1 _ _ _ _ _ _ _ _ _ | with_reducible exact four2 _ _ _ _ _ _ _ _ _ | with_reducible exact four3 _ _ _ _ _ _ _ _ _), by (first | with_reducible exact four0 _ _ _ _ _ _ _ _ _ | with_reducible exact four1 _ _ _ _ _ _ _ _ _ | with_reducible exact four2 _ _ _ _ _ _ _ _ _ | with_reducible exact four3 _ _ _ _ _ _ _ _ _), by (first | with_reducible exact four0 _ _ _ _ _ _ _ _ _ | with_reducible exact four1 _ _ _ _ _ _ _ _ _ | with_reducible exact four2 _ _ _ _ _ _ _ _ _ | with_reducible exact four3 _ _ _ _ _ _ _ _ _), fourG _ _ _ _ _ _ _ _ _⟩
  case rest =>
    obtain ⟨X3, X4, X5, X6, rfl, rfl, rfl, rfl, k3, k4, k5, k6, gc⟩ := hcut
    replace hE := hE.gr gc
    replace hR := hR.gr gc
    replace hG := hG.trans gc
    clear gc
    have hM := M6.new wc (.int .u8 0) (.bool false) (.int .i64 0) (.int .i64 0) (.int .i64 0) (.int .i64 0)
    have g1 := (Gr.refl wc).alloc (.cells #[.int .u8 0, .bool false, .int .i64 0, .int .i64 0, .int .i64 0, .int .i64 0] 173)
    have q0 := (hE.gr g1).c0
    have q1 := (hE.gr g1).c1
    have q2 := (hE.gr g1).c2
    have q3 := (hE.gr g1).c3
    have q4 := (hE.gr g1).c4
    have q5 := (hE.gr g1).c5
    have q6 := (hE.gr g1).c6
    have q7 := (hE.gr g1).c7
    have k3' := k3
    have k4' := k4
    have k5' := k5
    have k6' := k6
    have hR' := hR
    have hsz := hG.size
    replace k3 := k3.gr g1
    replace k4 := k4.gr g1
    replace k5 := k5.gr g1
    replace k6 := k6.gr g1
    replace hR := hR.gr g1
    have hlt := hR.lt
    have hlt := hR.lt
    have n3 : wc.heap.size ≠ X3 := fun e => by have := k3'.lt; omega
    have n4 : wc.heap.size ≠ X4 := fun e => by have := k4'.lt; omega
    have n5 : wc.heap.size ≠ X5 := fun e => by have := k5'.lt; omega
    have n6 : wc.heap.size ≠ X6 := fun e => by have := k6'.lt; omega
    have nR : w.heap.size + 1 ≠ wc.heap.size := fun e => by have := hR'.lt; omega
    replace hG := hG.trans g1
    clear hE g1 k3' k4' k5' k6' hR' hlt
    go_wp2
    clear q0 q1 q2 q3 q4 q5 q6 q7
    have nW : w.heap.size ≤ wc.heap.size := hsz
    generalize hX7 : wc.heap.size = X7 at *
    generalize wc.alloc (.cells #[.int .u8 0, .bool false, .int .i64 0, .int .i64 0, .int .i64 0, .int .i64 0] 173) = W1 at *
    go_loopw [19] (fun t wr => ∃ k : Nat, k ≤ 4 ∧ t = .int .i64 k ∧ okM (stK (ax, ay) (bx, by_) (cx, cy) (dx, dy) k) ∧ M6 wr X7 (.int .u8 (stK (ax, ay) (bx, by_) (cx, cy) (dx, dy) k).1) (.bool (stK (ax, ay) (bx, by_) (cx, cy) (dx, dy) k).2.1) (.int .i64 (stK (ax, ay) (bx, by_) (cx, cy) (dx, dy) k).2.2.1.1) (.int .i64 (stK (ax, ay) (bx, by_) (cx, cy) (dx, dy) k).2.2.1.2) (.int .i64 (stK (ax, ay) (bx, by_) (cx, cy) (dx, dy) k).2.2.2.1) (.int .i64 (stK (ax, ay) (bx, by_) (cx, cy) (dx, dy) k).2.2.2.2) ∧ TwoIs wr X3 ax ay ∧ TwoIs wr X4 bx by_ ∧ TwoIs wr X5 cx cy ∧ TwoIs wr X6 dx dy ∧ M6 wr (w.heap.size + 1) (.int .u8 0) (.bool false) (.int .i64 0) (.int .i64 0) (.int .i64 0) (.int .i64 0) ∧ Gr w wr) (fun t _ => (4 - intOf t).toNat)
    case atStart => exact ⟨0, by omega, rfl, Or.inl rfl, hM, k3, k4, k5, k6, hR, hG⟩
    case round =>
      clear hM k3 k4 k5 k6 hR hG
      obtain ⟨k, hk, rfl, hok, hM, k3, k4, k5, k6, hR, hG⟩ := hrel
      by_cases h4 : k = 4
      · subst h4
        have hst : stK (ax, ay) (bx, by_) (cx, cy) (dx, dy) 4 = endsM (ax, ay) (bx, by_) (cx, cy) (dx, dy) := rfl
        rw [hst] at hM
        clear hst hok
        generalize hme : endsM (ax, ay) (bx, by_) (cx, cy) (dx, dy) = m at *
        have m0 := hM.c0
        have m1 := hM.c1
        have m2 := hM.c2
        have m3 := hM.c3
        have m4 := hM.c4
        have m5 := hM.c5
        have r0 := hR.c0
        have r1 := hR.c1
        have r2 := hR.c2
        have r3 := hR.c3
        have r4 := hR.c4
        have r5 := hR.c5
        have rf := hR.f
        go_wp2
        refine bodyPost_ret (v := mtv m) (by simp [results, Tryz.results135, go_sem, r0, r1, r2, r3, r4, r5]) rfl ⟨by rw [hme], ?_⟩
        exact (((((hG.setCell (by simp) _).setCell (by simp) _).setCell (by simp) _).setCell (by simp) _).setCell (by simp) _).setCell (by simp) _
      · have hk4 : k < 4 := by omega
        have hke : Hid (∃ e : P2, lat e ∧ (∀ w, (Instr.index 178 (.agg #[.int .i32 ax, .int .i32 ay, .int .i32 bx, .int .i32 by_, .int .i32 cx, .int .i32 cy, .int .i32 dx, .int .i32 dy]) (.int .i64 (k : Int))).run Tryz.prog w = .ok (pt e.1 e.2) w) ∧ stK (ax, ay) (bx, by_) (cx, cy) (dx, dy) (k + 1) = stepM (ax, ay) (bx, by_) (cx, cy) (dx, dy) (stK (ax, ay) (bx, by_) (cx, cy) (dx, dy) k) e) := by
          have h : k = 0 ∨ k = 1 ∨ k = 2 ∨ k = 3 := by omega
          rcases h with rfl | rfl | rfl | rfl
          · exact ⟨(ax, ay), la, ix0 ax ay bx by_ cx cy dx dy, rfl⟩
          · exact ⟨(bx, by_), lb, ix1 ax ay bx by_ cx cy dx dy, rfl⟩
          · exact ⟨(cx, cy), lc, ix2 ax ay bx by_ cx cy dx dy, rfl⟩
          · exact ⟨(dx, dy), ld, ix3 ax ay bx by_ cx cy dx dy, rfl⟩
        obtain ⟨⟨ex, ey⟩, le, hx, hst⟩ := hke.out
        clear h4 hk hke
        have OA := on_lat (ex, ey) (ax, ay) (bx, by_) le.ins la.ins lb.ins
        have OC := on_lat (ex, ey) (cx, cy) (dx, dy) le.ins lc.ins ld.ins
        have F := foot_any (ex, ey) (ax, ay) (bx, by_) le la lb
        have fO : frOk (footF (ex, ey) (ax, ay) (bx, by_)) := foot_ok le la lb
        unfold stepM bothB at hst
        generalize onP (ex, ey) (ax, ay) (bx, by_) = B1 at *
        generalize onP (ex, ey) (cx, cy) (dx, dy) = B2 at *
        generalize footF (ex, ey) (ax, ay) (bx, by_) = f at *
        generalize stK (ax, ay) (bx, by_) (cx, cy) (dx, dy) k = m at *
        replace OA := hid OA
        replace OC := hid OC
        replace F := hid F
        replace hst := hid hst
        replace fO := hid fO
        replace hok := hid hok
        have n9 : X7 ≠ wr.heap.size := fun e => by have := hM.lt; omega
        have k9 : TwoIs (wr.alloc (.cells #[.int .i32 ex, .int .i32 ey] 28)) wr.heap.size ex ey := TwoIs.new wr ex ey
        have g1 := (Gr.refl wr).alloc (.cells #[.int .i32 ex, .int .i32 ey] 28)
        replace k3 := k3.gr g1
        replace k4 := k4.gr g1
        replace k5 := k5.gr g1
        replace k6 := k6.gr g1
        replace hR := hR.gr g1
        replace hM := hM.gr g1
        replace hG := hG.trans g1
        clear g1
        have a0 := k3.c0
        have a1 := k3.c1
        have b0 := k4.c0
        have b1 := k4.c1
        have c0 := k5.c0
        have c1 := k5.c1
        have d0 := k6.c0
        have d1 := k6.c1
        have e0 := k9.c0
        have e1 := k9.c1
        go_wp2_with fail
        clear hx
        refine (OA.out _).mono ?_
        rintro e w1 ⟨rfl, q1⟩
        replace k3 := k3.gr q1
        replace k4 := k4.gr q1
        replace k5 := k5.gr q1
        replace k6 := k6.gr q1
        replace k9 := k9.gr q1
        replace hR := hR.gr q1
        replace hM := hM.gr q1
        replace hG := hG.trans q1
        clear q1
        clear a0 a1 b0 b1 c0 c1 d0 d1 e0 e1
        generalize wr.heap.size = X9 at *
        clear OA
        cases B1 with
        | false =>
          go_wp2
          go_roundw
          case rel => exact ⟨k + 1, by omega, by go_num, by rw [hst.out]; exact hok.out, by rw [hst.out]; exact hM, k3, k4, k5, k6, hR, hG⟩
          case measure => simp [intOf]; omega
        | true =>
          have a0 := k3.c0
          have a1 := k3.c1
          have b0 := k4.c0
          have b1 := k4.c1
          have c0 := k5.c0
          have c1 := k5.c1
          have d0 := k6.c0
          have d1 := k6.c1
          have e0 := k9.c0
          have e1 := k9.c1
          go_wp2_with fail
          refine (OC.out _).mono ?_
          rintro e w2 ⟨rfl, q2⟩
          replace k3 := k3.gr q2
          replace k4 := k4.gr q2
          replace k5 := k5.gr q2
          replace k6 := k6.gr q2
          replace k9 := k9.gr q2
          replace hR := hR.gr q2
          replace hM := hM.gr q2
          replace hG := hG.trans q2
          clear q2
          clear a0 a1 b0 b1 c0 c1 d0 d1 e0 e1
          clear OC
          cases B2 with
          | false =>
            go_wp2
            go_roundw
            case rel => exact ⟨k + 1, by omega, by go_num, by rw [hst.out]; exact hok.out, by rw [hst.out]; exact hM, k3, k4, k5, k6, hR, hG⟩
            case measure => simp [intOf]; omega
          | true =>
            have m0 := hM.c0
            have m1 := hM.c1
            have m2 := hM.c2
            have m3 := hM.c3
            have m4 := hM.c4
            have m5 := hM.c5
            have mf := hM.f
            go_upto_region 7 with fail
            have e0 := k9.c0
            have e1 := k9.c1
            have a0 := k3.c0
            have a1 := k3.c1
            have b0 := k4.c0
            have b1 := k4.c1
            go_region_with (first
                | (go_at_call 142; refine (F.out _).mono ?_; rintro e y1 ⟨rfl, g1⟩; have g1' := ((Gr.refl w2).drew).trans g1; have hM1 := hM.gr g1'; have i0 := hM1.c0; have i1 := hM1.c1; have i2 := hM1.c2; have i3 := hM1.c3; have i4 := hM1.c4; have i5 := hM1.c5)
                | (go_at_call 141; refine (wid_any m f _ hok.out fO.out).mono ?_; rintro e y2 ⟨rfl, g2⟩; have hM2 := hM1.gr g2; have j0 := hM2.c0; have j1 := hM2.c1; have j2 := hM2.c2; have j3 := hM2.c3; have j4 := hM2.c4; have j5 := hM2.c5; have jf := hM2.f))
            all_goals
              have g2' := (hG.trans g1').trans g2
              replace hR := (hR.gr g1').gr g2
              replace k3 := (k3.gr g1').gr g2
              replace k4 := (k4.gr g1').gr g2
              replace k5 := (k5.gr g1').gr g2
              replace k6 := (k6.gr g1').gr g2
              clear a0 a1 b0 b1 e0 e1 m0 m1 m2 m3 m4 m5 mf
              go_wp2
              go_roundw
              case rel => exact ⟨k + 1, by omega, by go_num, by rw [hst.out]; exact wid_ok hok.out fO.out, by rw [hst.out]; exact (((((hM2.s0 _).s1 _).s2 _).s3 _).s4 _).s5 _, six n3 k3, six n4 k4, six n5 k5, six n6 k6, sixR nR hR, sixG nW g2'⟩
              case measure => simp [intOf]; omega
end
end Go.Proofs.YtgcofpfjdplopaaGreat
