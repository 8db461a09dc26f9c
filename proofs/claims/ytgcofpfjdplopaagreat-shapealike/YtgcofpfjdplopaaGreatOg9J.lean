/- Plain: what the ring of a box covers. Meets of a shape, from what its Check and its area tell. -/
import Derived.Test.YtgcofpfjdplopaaGreatQl9J
import Derived.Test.YtgcofpfjdplopaaGreatNp9J
namespace Go.Proofs.YtgcofpfjdplopaaGreat
section
set_option linter.unusedVariables false
open Go.RowKit Go.Sort

theorem cmp0 {k t : Int} (hk : 0 < k) : (cmpI 0 (k * t) = 1 ↔ t < 0) ∧ (cmpI 0 (k * t) = -1 ↔ 0 < t) ∧ (cmpI 0 (k * t) = 0 ↔ t = 0) := by
  obtain ⟨s1, s2, s3⟩ := mul_sign (t := t) hk
  unfold cmpI
  split
  · omega
  · split <;> omega
theorem cmp0' {k t : Int} (hk : 0 < k) : (cmpI (k * t) 0 = 0 ↔ t = 0) := by
  obtain ⟨s1, s2, s3⟩ := mul_sign (t := t) hk
  unfold cmpI
  split
  · omega
  · split <;> omega
theorem turn01 {a b p : P2} (h1 : a.1 < b.1) (h2 : a.2 < b.2) : turnP a (b.1, a.2) p = 0 ↔ p.2 = a.2 := by
  unfold turnP turnI
  simp only [Int.sub_self, Int.zero_mul]
  rw [cmp0' (by omega)]; omega
theorem turn12 {a b p : P2} (h1 : a.1 < b.1) (h2 : a.2 < b.2) : (turnP (b.1, a.2) b p = 1 ↔ p.1 < b.1) ∧ (turnP (b.1, a.2) b p = 0 ↔ p.1 = b.1) := by
  unfold turnP turnI
  simp only [Int.sub_self, Int.zero_mul]
  have := cmp0 (k := b.2 - a.2) (t := p.1 - b.1) (by omega)
  omega
theorem turn23 {a b p : P2} (h1 : a.1 < b.1) (h2 : a.2 < b.2) : turnP b (a.1, b.2) p = 0 ↔ p.2 = b.2 := by
  unfold turnP turnI
  simp only [Int.sub_self, Int.zero_mul]
  rw [show (a.1 - b.1) * (p.2 - b.2) = (b.1 - a.1) * (b.2 - p.2) by grind, cmp0' (by omega)]; omega
theorem turn30 {a b p : P2} (h1 : a.1 < b.1) (h2 : a.2 < b.2) : (turnP (a.1, b.2) a p = -1 ↔ p.1 < a.1) ∧ (turnP (a.1, b.2) a p = 0 ↔ p.1 = a.1) := by
  unfold turnP turnI
  simp only [Int.sub_self, Int.zero_mul]
  have := cmp0 (k := b.2 - a.2) (t := a.1 - p.1) (by omega)
  rw [show (a.2 - b.2) * (p.1 - a.1) = (b.2 - a.2) * (a.1 - p.1) by grind]
  omega
theorem edge_ring {a b p : P2} (h1 : a.1 < b.1) (h2 : a.2 < b.2) : edgeL (crnL a b) p = (onE p a (b.1, a.2) || onE p (b.1, a.2) b || onE p b (a.1, b.2) || onE p (a.1, b.2) a) := by
  obtain ⟨e0, e1, e2, e3, e4⟩ := ring_at a b
  unfold edgeL
  rw [show (crnL a b).length = 4 from rfl, show List.range 4 = [0, 1, 2, 3] from rfl]
  simp only [List.any_cons, List.any_nil, Nat.reduceAdd, e0, e1, e2, e3, e4, Bool.or_false, Bool.or_assoc]
theorem cross_ring {a b p : P2} (h1 : a.1 < b.1) (h2 : a.2 < b.2) : sumZ (crossI p) (crnL a b) 4 = crossI p a (b.1, a.2) + crossI p (b.1, a.2) b + crossI p b (a.1, b.2) + crossI p (a.1, b.2) a := by
  obtain ⟨e0, e1, e2, e3, e4⟩ := ring_at a b
  rw [sumZ_succ, sumZ_succ, sumZ_succ, sumZ_succ]
  simp only [Nat.reduceAdd, e0, e1, e2, e3, e4]
  simp [sumZ]
theorem cover_ring {a b p : P2} (h1 : a.1 < b.1) (h2 : a.2 < b.2) : coversL (crnL a b) p = hasB a.1 a.2 b.1 b.2 p.1 p.2 := by
  have t1 := turn01 (p := p) h1 h2
  have t2 := turn12 (p := p) h1 h2
  have t3 := turn23 (p := p) h1 h2
  have t4 := turn30 (p := p) h1 h2
  have c1 : crossI p a (b.1, a.2) = 0 := by
    have : pastI p a (b.1, a.2) = 0 := by unfold pastI; simp only; rw [if_neg (by omega), if_neg (by omega)]
    unfold crossI; rw [this]; rfl
  have c3 : crossI p b (a.1, b.2) = 0 := by
    have : pastI p b (a.1, b.2) = 0 := by unfold pastI; simp only; rw [if_neg (by omega), if_neg (by omega)]
    unfold crossI; rw [this]; rfl
  have c2 : crossI p (b.1, a.2) b = if (a.2 ≤ p.2 ∧ p.2 < b.2) ∧ p.1 < b.1 then 1 else 0 := by
    have : pastI p (b.1, a.2) b = if (a.2 ≤ p.2 ∧ p.2 < b.2) ∧ p.1 < b.1 then 1 else 0 := by
      unfold pastI
      simp only [t2.1]
      split
      · rw [if_pos (by omega)]
      · rw [if_neg (by omega), if_neg (by omega)]
    unfold crossI; rw [this]; split <;> rfl
  have c4 : crossI p (a.1, b.2) a = if (a.2 ≤ p.2 ∧ p.2 < b.2) ∧ p.1 < a.1 then 1 else 0 := by
    have : pastI p (a.1, b.2) a = if (a.2 ≤ p.2 ∧ p.2 < b.2) ∧ p.1 < a.1 then -1 else 0 := by
      unfold pastI
      simp only [t4.1]
      rw [if_neg (by omega)]
      split
      · rw [if_pos (by omega)]
      · rw [if_neg (by omega)]
    unfold crossI; rw [this]; split <;> rfl
  unfold coversL
  rw [show (crnL a b).length = 4 from rfl, edge_ring h1 h2, cross_ring h1 h2, c1, c2, c3, c4, Bool.eq_iff_iff, has_iff]
  have o1 : onE p a (b.1, a.2) = true ↔ (a.1 ≤ p.1 ∧ p.1 ≤ b.1) ∧ p.2 = a.2 := by
    unfold onE onB; change (hasB _ _ _ _ _ _ && (turnP a (b.1, a.2) p == 0)) = true ↔ _
    rw [Bool.and_eq_true, beq_iff_eq, t1]; unfold hasB rightB minI maxI; simp; omega
  have o2 : onE p (b.1, a.2) b = true ↔ (a.2 ≤ p.2 ∧ p.2 ≤ b.2) ∧ p.1 = b.1 := by
    unfold onE onB; change (hasB _ _ _ _ _ _ && (turnP (b.1, a.2) b p == 0)) = true ↔ _
    rw [Bool.and_eq_true, beq_iff_eq, t2.2]; unfold hasB rightB minI maxI; simp; omega
  have o3 : onE p b (a.1, b.2) = true ↔ (a.1 ≤ p.1 ∧ p.1 ≤ b.1) ∧ p.2 = b.2 := by
    unfold onE onB; change (hasB _ _ _ _ _ _ && (turnP b (a.1, b.2) p == 0)) = true ↔ _
    rw [Bool.and_eq_true, beq_iff_eq, t3]; unfold hasB rightB minI maxI; simp; omega
  have o4 : onE p (a.1, b.2) a = true ↔ (a.2 ≤ p.2 ∧ p.2 ≤ b.2) ∧ p.1 = a.1 := by
    unfold onE onB; change (hasB _ _ _ _ _ _ && (turnP (a.1, b.2) a p == 0)) = true ↔ _
    rw [Bool.and_eq_true, beq_iff_eq, t4.2]; unfold hasB rightB minI maxI; simp; omega
  rw [Bool.or_eq_true, Bool.or_eq_true, Bool.or_eq_true, Bool.or_eq_true, o1, o2, o3, o4, beq_iff_eq]
  split <;> split <;> omega
theorem poly_box {a b p : P2} (h1 : a.1 < b.1) (h2 : a.2 < b.2) (q : P2) : withL (crnL a b) [] p = hasB a.1 a.2 b.1 b.2 p.1 p.2 ∧ polyM (crnL a b) [] p q = rectM a b p q := by
  have e : withL (crnL a b) [] p = hasB a.1 a.2 b.1 b.2 p.1 p.2 := by unfold withL noneB; rw [cover_ring h1 h2]; simp
  refine ⟨e, ?_⟩
  unfold polyM rectM edgM
  rw [e]
  simp
end
section
set_option linter.unusedSimpArgs false
open Go.RowKit Go.Shelf Go.Sort

set_option maxRecDepth 20000 in
set_option maxHeartbeats 8000000 in
theorem meets_ok (k s : Int) (vo ho : Option Addr) (m vc n hc : Nat) (T : TypeId) (f : FuncId) (Q : World → Nat → Prop) (p q : Int × Int) (B : Bool) (w : World)
    (hT : (T = 124 ∧ f = 187) ∨ (T = 126 ∧ f = 195) ∨ (T = 129 ∧ f = 201) ∨ (T = 132 ∧ f = 205))
    (OF : ∀ w', Below w.heap.size w w' → Calls Tryz.prog 19 #[shp k s vo ho m vc n hc] w' fun e w'' => ∃ D, e = .returned (.tuple #[.iface T (.pointer (some ⟨D, 0, none⟩)), .int .i64 0]) ∧ Q w'' D ∧ Below w'.heap.size w' w'')
    (CV : ∀ w' D, Q w' D → Calls Tryz.prog f #[.pointer (some ⟨D, 0, none⟩), pt p.1 p.2, pt q.1 q.2] w' fun e w'' => e = .returned (.bool B) ∧ Below w'.heap.size w' w'') :
    Calls Tryz.prog 17 #[shp k s vo ho m vc n hc, pt p.1 p.2, pt q.1 q.2] w fun e w' => e = .returned (.bool B) ∧ Below w.heap.size w w' := by
  obtain ⟨W, hW⟩ : ∃ W, W = ((w.alloc (.cells #[.int .u8 k, .slice vo m vc, .slice ho n hc, .int .i32 s] 26)).alloc (.cells #[.int .i32 p.1, .int .i32 p.2] 28)).alloc (.cells #[.int .i32 q.1, .int .i32 q.2] 28) := ⟨_, rfl⟩
  have g : Gr w W := by rw [hW]; exact (((Gr.refl _).alloc _).alloc _).alloc _
  have kS : Bl W w.heap.size 26 #[.int .u8 k, .slice vo m vc, .slice ho n hc, .int .i32 s] := by rw [hW]; exact ((Bl.new w 26 _).below ((Gr.refl _).alloc _).below).below ((Gr.refl _).alloc _).below
  have kP : Bl W (w.heap.size + 1) 28 #[.int .i32 p.1, .int .i32 p.2] := by rw [hW]; have := Bl.new (w.alloc (.cells #[.int .u8 k, .slice vo m vc, .slice ho n hc, .int .i32 s] 26)) 28 #[.int .i32 p.1, .int .i32 p.2]; rw [World.size_alloc] at this; exact this.below ((Gr.refl _).alloc _).below
  have kQ : Bl W (w.heap.size + 1 + 1) 28 #[.int .i32 q.1, .int .i32 q.2] := by rw [hW]; have := Bl.new ((w.alloc (.cells #[.int .u8 k, .slice vo m vc, .slice ho n hc, .int .i32 s] 26)).alloc (.cells #[.int .i32 p.1, .int .i32 p.2] 28)) 28 #[.int .i32 q.1, .int .i32 q.2]; rwa [World.size_alloc, World.size_alloc] at this
  obtain ⟨p0, p1, p2, p3⟩ := four_below9 kS
  obtain ⟨q0, q1⟩ := two_below9 kP
  obtain ⟨r0, r1⟩ := two_below9 kQ
  have x0 := p0 W (Below.refl _ _)
  have x1 := p1 W (Below.refl _ _)
  have x2 := p2 W (Below.refl _ _)
  have x3 := p3 W (Below.refl _ _)
  have gb : Hid (Below w.heap.size w W) := g.below
  have gs : Hid (w.heap.size ≤ W.heap.size) := g.size
  replace OF := hid' (OF W g.below)
  replace CV := hid' CV
  clear g kS kP kQ p0 p1 p2 p3
  rcases hT with ⟨rfl, rfl⟩ | ⟨rfl, rfl⟩ | ⟨rfl, rfl⟩ | ⟨rfl, rfl⟩
  all_goals
    go_enter Tryz.func17, Tryz.ntmps17
    go_upto_region 1 with fail
    rw [← hW]
    clear hW
    go_wp2_with (first
      | (go_at_call 19; refine OF.out.mono ?_; rintro e w3 ⟨D, rfl, hQ, g3⟩; have y0 := q0 _ g3; have y1 := q1 _ g3; have y2 := r0 _ g3; have y3 := r1 _ g3)
      | (refine (CV.out _ _ hQ).mono ?_; rintro e w4 ⟨rfl, g4⟩))
    go_ret
    exact ⟨rfl, gb.out.trans ((g3.trans (g4.mono g3.size)).mono gs.out)⟩
end
end Go.Proofs.YtgcofpfjdplopaaGreat
