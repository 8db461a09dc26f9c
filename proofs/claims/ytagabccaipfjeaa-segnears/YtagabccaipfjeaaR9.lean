/- Contracts of the reference's fractions: whole, Sign, mul, add. -/
import Derived.Test.YtagabccaipfjeaaR8
namespace Go.Proofs.Ytagabccaipfjeaa
open Go.RowKit Go.Sort

/-- A fraction in memory, of at most L words each. -/
def Rt (w : World) (x : Value) (n d : Int) (L : Nat) : Prop := ∃ r o l c R O M C, x = .agg #[.bool r, .slice o l c, .bool R, .slice O M C] ∧ Nm w (.agg #[.bool r, .slice o l c]) n L ∧ Nm w (.agg #[.bool R, .slice O M C]) d L
theorem Rt.mono {w w' : World} {x : Value} {n d : Int} {L : Nat} (h : Rt w x n d L) (g : Below w.heap.size w w') : Rt w' x n d L := by
  obtain ⟨r, o, l, c, R, O, M, C, e, h1, h2⟩ := h; exact ⟨r, o, l, c, R, O, M, C, e, h1.mono g, h2.mono g⟩
theorem Rt.le {w : World} {x : Value} {n d : Int} {L K : Nat} (h : Rt w x n d L) (k : L ≤ K) : Rt w x n d K := by
  obtain ⟨r, o, l, c, R, O, M, C, e, h1, h2⟩ := h; exact ⟨r, o, l, c, R, O, M, C, e, h1.le k, h2.le k⟩
def Q4 (w : World) (b : Nat) (x0 x1 x2 x3 : Value) : Prop := w.heap[b]? = some (.cells #[x0, x1, x2, x3] 53 (0, 0))
section
variable {w w' : World} {b : Nat} {x0 x1 x2 x3 : Value}
theorem Q4.lt (h : Q4 w b x0 x1 x2 x3) : b < w.heap.size := lt_of_block h
theorem Q4.c0 (h : Q4 w b x0 x1 x2 x3) : w.cell? ⟨b, 0, none⟩ = some x0 := by unfold Q4 at h; simp [World.cell?, h]
theorem Q4.c1 (h : Q4 w b x0 x1 x2 x3) : w.cell? ⟨b, 1, none⟩ = some x1 := by unfold Q4 at h; simp [World.cell?, h]
theorem Q4.c2 (h : Q4 w b x0 x1 x2 x3) : w.cell? ⟨b, 2, none⟩ = some x2 := by unfold Q4 at h; simp [World.cell?, h]
theorem Q4.c3 (h : Q4 w b x0 x1 x2 x3) : w.cell? ⟨b, 3, none⟩ = some x3 := by unfold Q4 at h; simp [World.cell?, h]
theorem Q4.f (h : Q4 w b x0 x1 x2 x3) (o : Nat) : w.frozen? ⟨b, o, none⟩ = false := by unfold Q4 at h; simp [World.frozen?, h]
theorem Q4.at (h : Q4 w b x0 x1 x2 x3) : w.heap[b]'(h.lt) = .cells #[x0, x1, x2, x3] 53 (0, 0) := by
  have hlt := h.lt
  unfold Q4 at h; simpa [Array.getElem?_eq_getElem hlt] using h
theorem Q4.s0 (h : Q4 w b x0 x1 x2 x3) (z : Value) : Q4 (w.setCell ⟨b, 0, none⟩ z) b z x1 x2 x3 := by
  have hlt := h.lt
  show (w.heap.modify b _)[b]? = _
  rw [Array.getElem?_eq_getElem (by simpa using hlt), Array.getElem_modify_self, h.at]; rfl
theorem Q4.s1 (h : Q4 w b x0 x1 x2 x3) (z : Value) : Q4 (w.setCell ⟨b, 1, none⟩ z) b x0 z x2 x3 := by
  have hlt := h.lt
  show (w.heap.modify b _)[b]? = _
  rw [Array.getElem?_eq_getElem (by simpa using hlt), Array.getElem_modify_self, h.at]; rfl
theorem Q4.s2 (h : Q4 w b x0 x1 x2 x3) (z : Value) : Q4 (w.setCell ⟨b, 2, none⟩ z) b x0 x1 z x3 := by
  have hlt := h.lt
  show (w.heap.modify b _)[b]? = _
  rw [Array.getElem?_eq_getElem (by simpa using hlt), Array.getElem_modify_self, h.at]; rfl
theorem Q4.s3 (h : Q4 w b x0 x1 x2 x3) (z : Value) : Q4 (w.setCell ⟨b, 3, none⟩ z) b x0 x1 x2 z := by
  have hlt := h.lt
  show (w.heap.modify b _)[b]? = _
  rw [Array.getElem?_eq_getElem (by simpa using hlt), Array.getElem_modify_self, h.at]; rfl
theorem Q4.mono {B : Nat} (h : Q4 w b x0 x1 x2 x3) (g : Below B w w') (hb : b < B) : Q4 w' b x0 x1 x2 x3 := by
  unfold Q4; rw [g.block b hb]; exact h
theorem Q4.other (h : Q4 w b x0 x1 x2 x3) {p : Addr} (hp : b ≠ p.block) (z : Value) : Q4 (w.setCell p z) b x0 x1 x2 x3 := by
  unfold Q4; rw [Below.heap_setCell _ _ _ _ hp]; exact h
theorem Q4.gr (h : Q4 w b x0 x1 x2 x3) (g : Gr w w') : Q4 w' b x0 x1 x2 x3 := h.mono g.below h.lt
end
theorem Q4.new (w : World) (x0 x1 x2 x3 : Value) : Q4 (w.alloc (.cells #[x0, x1, x2, x3] 53)) w.heap.size x0 x1 x2 x3 := heap_alloc_new w _
theorem Q4.no {w : World} {b : Nat} {x0 x1 x2 x3 : Value} (h : Q4 w b x0 x1 x2 x3) : ∀ cur, w.heap[b]? ≠ some (.cells cur 80 (0, 0)) := fun cur e => by unfold Q4 at h; rw [h] at e; simp at e
theorem Nm.setQ {w : World} {x : Value} {n : Int} {L : Nat} (h : Nm w x n L) {b : Nat} {x0 x1 x2 x3 : Value} (hb : Q4 w b x0 x1 x2 x3) (y0 y1 y2 y3 : Value) : Nm ((((w.setCell ⟨b, 0, none⟩ y0).setCell ⟨b, 1, none⟩ y1).setCell ⟨b, 2, none⟩ y2).setCell ⟨b, 3, none⟩ y3) x n L :=
  (((h.set (p := ⟨b, 0, none⟩) hb.no y0).set (p := ⟨b, 1, none⟩) (hb.s0 y0).no y1).set (p := ⟨b, 2, none⟩) ((hb.s0 y0).s1 y1).no y2).set (p := ⟨b, 3, none⟩) (((hb.s0 y0).s1 y1).s2 y2).no y3
abbrev S8 (A B : Nat) (x0 x1 x2 x3 y0 y1 y2 y3 : Value) (K : Nat) (W : World) (w : World) : Prop :=
  w.cell? ⟨A, 0, none⟩ = some x0 ∧ w.cell? ⟨A, 1, none⟩ = some x1 ∧ w.cell? ⟨A, 2, none⟩ = some x2 ∧ w.cell? ⟨A, 3, none⟩ = some x3 ∧ w.cell? ⟨B, 0, none⟩ = some y0 ∧ w.cell? ⟨B, 1, none⟩ = some y1 ∧ w.cell? ⟨B, 2, none⟩ = some y2 ∧ w.cell? ⟨B, 3, none⟩ = some y3 ∧ Below K W w
theorem S8.call {A B : Nat} {x0 x1 x2 x3 y0 y1 y2 y3 : Value} {K : Nat} {W w w' : World} (h : S8 A B x0 x1 x2 x3 y0 y1 y2 y3 K W w) (hK : K ≤ W.heap.size) (g : Below w.heap.size w w') : S8 A B x0 x1 x2 x3 y0 y1 y2 y3 K W w' :=
  ⟨below_cell h.1 g, below_cell h.2.1 g, below_cell h.2.2.1 g, below_cell h.2.2.2.1 g, below_cell h.2.2.2.2.1 g, below_cell h.2.2.2.2.2.1 g, below_cell h.2.2.2.2.2.2.1 g, below_cell h.2.2.2.2.2.2.2.1 g, h.2.2.2.2.2.2.2.2.trans (g.mono (Nat.le_trans hK h.2.2.2.2.2.2.2.2.size))⟩
theorem S8.set {A B : Nat} {x0 x1 x2 x3 y0 y1 y2 y3 : Value} {K : Nat} {W w : World} (h : S8 A B x0 x1 x2 x3 y0 y1 y2 y3 K W w) {p : Addr} (hp : K ≤ p.block) (hA : A < K) (hB : B < K) (z : Value) : S8 A B x0 x1 x2 x3 y0 y1 y2 y3 K W (w.setCell p z) :=
  have f : ∀ a : Addr, a.block < K → (w.setCell p z).cell? a = w.cell? a := fun a ha => World.cell?_setCell_far w p a z (by omega)
  ⟨(f _ hA).trans h.1, (f _ hA).trans h.2.1, (f _ hA).trans h.2.2.1, (f _ hA).trans h.2.2.2.1, (f _ hB).trans h.2.2.2.2.1, (f _ hB).trans h.2.2.2.2.2.1, (f _ hB).trans h.2.2.2.2.2.2.1, (f _ hB).trans h.2.2.2.2.2.2.2.1, h.2.2.2.2.2.2.2.2.setCell hp z⟩

set_option maxHeartbeats 1000000 in
theorem whole_rt (n : Int) (w : World) (h0 : -9223372036854775808 ≤ n) (h1 : n ≤ 9223372036854775807) : Calls Try.prog 26 #[.int .i64 n] w fun e w' => ∃ z, e = .returned z ∧ Rt w' z n 1 2 ∧ Below w.heap.size w w' := by
  have K1 := hid' (fun W => of_num n W h0 h1)
  have K2 := hid' (fun W => of_num 1 W (by omega) (by omega))
  have q0 : Q4 (w.alloc (.cells #[.bool false, .slice none 0 0, .bool false, .slice none 0 0] 53)) w.heap.size (.bool false) (.slice none 0 0) (.bool false) (.slice none 0 0) := Q4.new w _ _ _ _
  have hF : Below w.heap.size w (w.alloc (.cells #[.bool false, .slice none 0 0, .bool false, .slice none 0 0] 53)) := ((Gr.refl _).alloc _).below
  clear h0 h1
  go_enter Try.func26, Try.ntmps26
  go_wp2_with fail
  refine (K1.out _).mono ?_
  rintro e w1 ⟨z, rfl, hz, g1⟩
  obtain ⟨r1, o1, l1, c1, rfl, hz1⟩ := hz.shape
  clear hz
  go_wp2_with fail
  refine (K2.out _).mono ?_
  rintro e w2 ⟨z, rfl, hz, g2⟩
  obtain ⟨r2, o2, l2, c2, rfl, hz2⟩ := hz.shape
  clear hz
  have hn1 := hid' (hz1.out.gr g2)
  have q2 := (q0.gr g1).gr g2
  have hF2 := (hF.trans (g1.below.mono hF.size))
  have hF3 := hF2.trans (g2.below.mono hF2.size)
  have d0 := q2.c0
  have d1 := q2.c1
  have d2 := q2.c2
  have d3 := q2.c3
  have df := q2.f
  clear hz1 K1 K2 q0 g1 g2 hF hF2
  go_wp2
  refine bodyPost_ret (v := .agg #[.bool r1, .slice o1 l1 c1, .bool r2, .slice o2 l2 c2]) (by simp [results, Try.results26, go_sem, d0, d1, d2, d3]) rfl ⟨_, rfl, ⟨r1, o1, l1, c1, r2, o2, l2, c2, rfl, ?_, ?_⟩, ?_⟩
  · exact hn1.out.setQ q2 _ _ _ _
  · exact hz2.out.setQ q2 _ _ _ _
  · exact (((hF3.setCell (by simp only []; omega) _).setCell (by simp only []; omega) _).setCell (by simp only []; omega) _).setCell (by simp only []; omega) _
set_option maxHeartbeats 1000000 in
theorem rsign_rt (x : Value) (n d : Int) (L : Nat) (w : World) (h : Rt w x n d L) : Calls Try.prog 24 #[x] w fun e w' => e = .returned (.int .i64 (cmpI n 0)) ∧ Below w.heap.size w w' := by
  obtain ⟨r, o, l, c, R, O, M, C, rfl, h1, _⟩ := h
  have K := hid' (fun W (g : Gr w W) => sign_num _ n L W (h1.gr g))
  clear h1
  go_enter Try.func24, Try.ntmps24
  go_wp2_with fail
  refine (K.out _ ((Gr.refl _).alloc _)).mono ?_
  rintro e w1 ⟨rfl, g1⟩
  go_wp2
  go_ret
  exact ⟨rfl, (((Gr.refl _).alloc _).trans g1).below⟩
set_option maxRecDepth 20000 in
set_option maxHeartbeats 2000000 in
theorem rmul_rt (x y : Value) (n d m e' : Int) (L M : Nat) (w : World) (hx : Rt w x n d L) (hy : Rt w y m e' M) (hL : L ≤ 400) (hM : M ≤ 400) :
    Calls Try.prog 39 #[x, y] w fun e w' => ∃ z, e = .returned z ∧ Rt w' z (n * m) (d * e') (L + M) ∧ Below w.heap.size w w' := by
  obtain ⟨ar, ao, al, ac, aR, aO, aL, aC, rfl, ha1, ha2⟩ := hx
  obtain ⟨br, bo, bl, bc, bR, bO, bL, bC, rfl, hb1, hb2⟩ := hy
  have k0 : Q4 (((w.alloc (.cells #[.bool ar, .slice ao al ac, .bool aR, .slice aO aL aC] 53)).alloc (.cells #[.bool br, .slice bo bl bc, .bool bR, .slice bO bL bC] 53)).alloc (.cells #[.bool false, .slice none 0 0, .bool false, .slice none 0 0] 53)) w.heap.size (.bool ar) (.slice ao al ac) (.bool aR) (.slice aO aL aC) := (Q4.new w _ _ _ _).gr (((Gr.refl _).alloc _).alloc _)
  have k1 : Q4 (((w.alloc (.cells #[.bool ar, .slice ao al ac, .bool aR, .slice aO aL aC] 53)).alloc (.cells #[.bool br, .slice bo bl bc, .bool bR, .slice bO bL bC] 53)).alloc (.cells #[.bool false, .slice none 0 0, .bool false, .slice none 0 0] 53)) (w.heap.size + 1) (.bool br) (.slice bo bl bc) (.bool bR) (.slice bO bL bC) := by
    have := (Q4.new (w.alloc (.cells #[.bool ar, .slice ao al ac, .bool aR, .slice aO aL aC] 53)) (.bool br) (.slice bo bl bc) (.bool bR) (.slice bO bL bC)).gr ((Gr.refl _).alloc (.cells #[.bool false, .slice none 0 0, .bool false, .slice none 0 0] 53))
    simpa using this
  have k2 : Q4 (((w.alloc (.cells #[.bool ar, .slice ao al ac, .bool aR, .slice aO aL aC] 53)).alloc (.cells #[.bool br, .slice bo bl bc, .bool bR, .slice bO bL bC] 53)).alloc (.cells #[.bool false, .slice none 0 0, .bool false, .slice none 0 0] 53)) (w.heap.size + 1 + 1) (.bool false) (.slice none 0 0) (.bool false) (.slice none 0 0) := by
    have := Q4.new ((w.alloc (.cells #[.bool ar, .slice ao al ac, .bool aR, .slice aO aL aC] 53)).alloc (.cells #[.bool br, .slice bo bl bc, .bool bR, .slice bO bL bC] 53)) (.bool false) (.slice none 0 0) (.bool false) (.slice none 0 0)
    simpa using this
  have hF0 : Below w.heap.size w (((w.alloc (.cells #[.bool ar, .slice ao al ac, .bool aR, .slice aO aL aC] 53)).alloc (.cells #[.bool br, .slice bo bl bc, .bool bR, .slice bO bL bC] 53)).alloc (.cells #[.bool false, .slice none 0 0, .bool false, .slice none 0 0] 53)) := ((((Gr.refl _).alloc _).alloc _).alloc _).below
  have hK : w.heap.size + 1 + 1 ≤ (((w.alloc (.cells #[.bool ar, .slice ao al ac, .bool aR, .slice aO aL aC] 53)).alloc (.cells #[.bool br, .slice bo bl bc, .bool bR, .slice bO bL bC] 53)).alloc (.cells #[.bool false, .slice none 0 0, .bool false, .slice none 0 0] 53)).heap.size := by simp
  have hD : Below w.heap.size w (((w.alloc (.cells #[.bool ar, .slice ao al ac, .bool aR, .slice aO aL aC] 53)).alloc (.cells #[.bool br, .slice bo bl bc, .bool bR, .slice bO bL bC] 53)).alloc (.cells #[.bool false, .slice none 0 0, .bool false, .slice none 0 0] 53)).drew := ((((Gr.refl _).alloc _).alloc _).alloc _).drew.below
  have N1 := hid' (ha1.mono hD)
  have N2 := hid' (ha2.mono hD)
  have N3 := hid' (hb1.mono hD)
  have N4 := hid' (hb2.mono hD)
  clear ha1 ha2 hb1 hb2 hD
  go_enter Try.func39, Try.ntmps39
  go_upto_region 1 with fail
  generalize (((w.alloc (.cells #[.bool ar, .slice ao al ac, .bool aR, .slice aO aL aC] 53)).alloc (.cells #[.bool br, .slice bo bl bc, .bool bR, .slice bO bL bC] 53)).alloc (.cells #[.bool false, .slice none 0 0, .bool false, .slice none 0 0] 53)) = W at *
  have hS0 : Hid (S8 w.heap.size (w.heap.size + 1) (.bool ar) (.slice ao al ac) (.bool aR) (.slice aO aL aC) (.bool br) (.slice bo bl bc) (.bool bR) (.slice bO bL bC) (w.heap.size + 1 + 1) W W.drew) := ⟨k0.c0, k0.c1, k0.c2, k0.c3, k1.c0, k1.c1, k1.c2, k1.c3, (Below.refl _ _).drew⟩
  have kd : Q4 W.drew (w.heap.size + 1 + 1) (.bool false) (.slice none 0 0) (.bool false) (.slice none 0 0) := k2
  clear k0 k1 k2
  go_region_held3 (S8 w.heap.size (w.heap.size + 1) (.bool ar) (.slice ao al ac) (.bool aR) (.slice aO aL aC) (.bool br) (.slice bo bl bc) (.bool bR) (.slice bO bL bC) (w.heap.size + 1 + 1) W)
    (repeat (first | with_reducible exact hS5.out | with_reducible exact hS4.out | with_reducible exact hS3.out | with_reducible exact hS2.out | with_reducible exact hS1.out | with_reducible exact hS0.out | (with_reducible refine S8.set ?_ (by simp only []; omega) (by omega) (by omega) _)))
    (first
      | (have _n0 := hz1; go_at_call 43; refine (times_num _ _ d e' L M _ N2.out N4.out hL hM).mono ?_; rintro e y2 ⟨z, rfl, hz, g2⟩; obtain ⟨r2, o2, l2, c2, rfl, hz2⟩ := hz.shape; clear hz; have hS2 : Hid (S8 w.heap.size (w.heap.size + 1) (.bool ar) (.slice ao al ac) (.bool aR) (.slice aO aL aC) (.bool br) (.slice bo bl bc) (.bool bR) (.slice bO bL bC) (w.heap.size + 1 + 1) W y2) := S8.call hS1.out hK g2; replace kd := kd.mono g2 kd.lt; replace hz1 := hid' (hz1.out.mono g2); have d0 := kd.c0; have d1 := kd.c1; have d2 := kd.c2; have d3 := kd.c3; have df := kd.f)
      | (go_at_call 43; refine (times_num _ _ n m L M _ N1.out N3.out hL hM).mono ?_; rintro e y1 ⟨z, rfl, hz, g1⟩; obtain ⟨r1, o1, l1, c1, rfl, hz1⟩ := hz.shape; clear hz; have hS1 : Hid (S8 w.heap.size (w.heap.size + 1) (.bool ar) (.slice ao al ac) (.bool aR) (.slice aO aL aC) (.bool br) (.slice bo bl bc) (.bool bR) (.slice bO bL bC) (w.heap.size + 1 + 1) W y1) := S8.call hS0.out hK g1; replace kd := kd.mono g1 kd.lt; replace N2 := hid' (N2.out.mono g1); replace N4 := hid' (N4.out.mono g1)))
  all_goals
    have hB := hid' (hF0.trans (hS2.out.2.2.2.2.2.2.2.2.mono (by omega)))
    go_wp2
    refine bodyPost_ret (v := .agg #[.bool r1, .slice o1 l1 c1, .bool r2, .slice o2 l2 c2]) (by simp [results, Try.results39, go_sem, d0, d1, d2, d3]) rfl ⟨_, rfl, ⟨r1, o1, l1, c1, r2, o2, l2, c2, rfl, ?_, ?_⟩, ?_⟩
    · exact (hz1.out.setQ kd _ _ _ _).le (by omega)
    · exact (hz2.out.setQ kd _ _ _ _).le (by omega)
    · exact (((hB.out.setCell (by simp only []; omega) _).setCell (by simp only []; omega) _).setCell (by simp only []; omega) _).setCell (by simp only []; omega) _
set_option maxRecDepth 20000 in
set_option maxHeartbeats 2000000 in
theorem radd_rt (x y : Value) (n d m e' : Int) (L M : Nat) (w : World) (hx : Rt w x n d L) (hy : Rt w y m e' M) (hL : L + M ≤ 400) :
    Calls Try.prog 38 #[x, y] w fun e w' => ∃ z, e = .returned z ∧ Rt w' z (n * e' + m * d) (d * e') (L + M + 1) ∧ Below w.heap.size w w' := by
  obtain ⟨ar, ao, al, ac, aR, aO, aL, aC, rfl, ha1, ha2⟩ := hx
  obtain ⟨br, bo, bl, bc, bR, bO, bL, bC, rfl, hb1, hb2⟩ := hy
  have k0 : Q4 (((w.alloc (.cells #[.bool ar, .slice ao al ac, .bool aR, .slice aO aL aC] 53)).alloc (.cells #[.bool br, .slice bo bl bc, .bool bR, .slice bO bL bC] 53)).alloc (.cells #[.bool false, .slice none 0 0, .bool false, .slice none 0 0] 53)) w.heap.size (.bool ar) (.slice ao al ac) (.bool aR) (.slice aO aL aC) := (Q4.new w _ _ _ _).gr (((Gr.refl _).alloc _).alloc _)
  have k1 : Q4 (((w.alloc (.cells #[.bool ar, .slice ao al ac, .bool aR, .slice aO aL aC] 53)).alloc (.cells #[.bool br, .slice bo bl bc, .bool bR, .slice bO bL bC] 53)).alloc (.cells #[.bool false, .slice none 0 0, .bool false, .slice none 0 0] 53)) (w.heap.size + 1) (.bool br) (.slice bo bl bc) (.bool bR) (.slice bO bL bC) := by
    have := (Q4.new (w.alloc (.cells #[.bool ar, .slice ao al ac, .bool aR, .slice aO aL aC] 53)) (.bool br) (.slice bo bl bc) (.bool bR) (.slice bO bL bC)).gr ((Gr.refl _).alloc (.cells #[.bool false, .slice none 0 0, .bool false, .slice none 0 0] 53))
    simpa using this
  have k2 : Q4 (((w.alloc (.cells #[.bool ar, .slice ao al ac, .bool aR, .slice aO aL aC] 53)).alloc (.cells #[.bool br, .slice bo bl bc, .bool bR, .slice bO bL bC] 53)).alloc (.cells #[.bool false, .slice none 0 0, .bool false, .slice none 0 0] 53)) (w.heap.size + 1 + 1) (.bool false) (.slice none 0 0) (.bool false) (.slice none 0 0) := by
    have := Q4.new ((w.alloc (.cells #[.bool ar, .slice ao al ac, .bool aR, .slice aO aL aC] 53)).alloc (.cells #[.bool br, .slice bo bl bc, .bool bR, .slice bO bL bC] 53)) (.bool false) (.slice none 0 0) (.bool false) (.slice none 0 0)
    simpa using this
  have hF0 : Below w.heap.size w (((w.alloc (.cells #[.bool ar, .slice ao al ac, .bool aR, .slice aO aL aC] 53)).alloc (.cells #[.bool br, .slice bo bl bc, .bool bR, .slice bO bL bC] 53)).alloc (.cells #[.bool false, .slice none 0 0, .bool false, .slice none 0 0] 53)) := ((((Gr.refl _).alloc _).alloc _).alloc _).below
  have hK : w.heap.size + 1 + 1 ≤ (((w.alloc (.cells #[.bool ar, .slice ao al ac, .bool aR, .slice aO aL aC] 53)).alloc (.cells #[.bool br, .slice bo bl bc, .bool bR, .slice bO bL bC] 53)).alloc (.cells #[.bool false, .slice none 0 0, .bool false, .slice none 0 0] 53)).heap.size := by simp
  have hD : Below w.heap.size w (((w.alloc (.cells #[.bool ar, .slice ao al ac, .bool aR, .slice aO aL aC] 53)).alloc (.cells #[.bool br, .slice bo bl bc, .bool bR, .slice bO bL bC] 53)).alloc (.cells #[.bool false, .slice none 0 0, .bool false, .slice none 0 0] 53)).drew := ((((Gr.refl _).alloc _).alloc _).alloc _).drew.below
  have N1 := hid' (ha1.mono hD)
  have N2 := hid' (ha2.mono hD)
  have N3 := hid' (hb1.mono hD)
  have N4 := hid' (hb2.mono hD)
  clear ha1 ha2 hb1 hb2 hD
  go_enter Try.func38, Try.ntmps38
  go_upto_region 1 with fail
  generalize (((w.alloc (.cells #[.bool ar, .slice ao al ac, .bool aR, .slice aO aL aC] 53)).alloc (.cells #[.bool br, .slice bo bl bc, .bool bR, .slice bO bL bC] 53)).alloc (.cells #[.bool false, .slice none 0 0, .bool false, .slice none 0 0] 53)) = W at *
  have hS0 : Hid (S8 w.heap.size (w.heap.size + 1) (.bool ar) (.slice ao al ac) (.bool aR) (.slice aO aL aC) (.bool br) (.slice bo bl bc) (.bool bR) (.slice bO bL bC) (w.heap.size + 1 + 1) W W.drew) := ⟨k0.c0, k0.c1, k0.c2, k0.c3, k1.c0, k1.c1, k1.c2, k1.c3, (Below.refl _ _).drew⟩
  have kd : Q4 W.drew (w.heap.size + 1 + 1) (.bool false) (.slice none 0 0) (.bool false) (.slice none 0 0) := k2
  clear k0 k1 k2
  go_region_held3 (S8 w.heap.size (w.heap.size + 1) (.bool ar) (.slice ao al ac) (.bool aR) (.slice aO aL aC) (.bool br) (.slice bo bl bc) (.bool bR) (.slice bO bL bC) (w.heap.size + 1 + 1) W)
    (repeat (first | with_reducible exact hS5.out | with_reducible exact hS4.out | with_reducible exact hS3.out | with_reducible exact hS2.out | with_reducible exact hS1.out | with_reducible exact hS0.out | (with_reducible refine S8.set ?_ (by simp only []; omega) (by omega) (by omega) _)))
    (first
      | (have _n0 := hz3; go_at_call 43; refine (times_num _ _ d e' L M _ N2.out N4.out (by omega) (by omega)).mono ?_; rintro e y4 ⟨z, rfl, hz, g4⟩; obtain ⟨r4, o4, l4, c4, rfl, hz4⟩ := hz.shape; clear hz; have hS4 : Hid (S8 w.heap.size (w.heap.size + 1) (.bool ar) (.slice ao al ac) (.bool aR) (.slice aO aL aC) (.bool br) (.slice bo bl bc) (.bool bR) (.slice bO bL bC) (w.heap.size + 1 + 1) W y4) := S8.call hS3.out hK g4; replace kd := kd.mono g4 kd.lt; replace hz3 := hid' (hz3.out.mono g4); have d0 := kd.c0; have d1 := kd.c1; have d2 := kd.c2; have d3 := kd.c3; have df := kd.f)
      | (go_at_call 46; refine (plus_num _ _ (n * e') (m * d) (L + M) (L + M) _ hz1.out (hz2.out.le (by omega)) (by omega) (by omega)).mono ?_; rintro e y3 ⟨z, rfl, hz, g3⟩; obtain ⟨r3, o3, l3, c3, rfl, hz3⟩ := hz.shape; clear hz; have hS3 : Hid (S8 w.heap.size (w.heap.size + 1) (.bool ar) (.slice ao al ac) (.bool aR) (.slice aO aL aC) (.bool br) (.slice bo bl bc) (.bool bR) (.slice bO bL bC) (w.heap.size + 1 + 1) W y3) := S8.call hS2.out hK g3; replace kd := kd.mono g3 kd.lt; replace N2 := hid' (N2.out.mono g3); replace N4 := hid' (N4.out.mono g3))
      | (have _n0 := hz1; go_at_call 43; refine (times_num _ _ m d M L _ N3.out N2.out (by omega) (by omega)).mono ?_; rintro e y2 ⟨z, rfl, hz, g2⟩; obtain ⟨r2, o2, l2, c2, rfl, hz2⟩ := hz.shape; clear hz; have hS2 : Hid (S8 w.heap.size (w.heap.size + 1) (.bool ar) (.slice ao al ac) (.bool aR) (.slice aO aL aC) (.bool br) (.slice bo bl bc) (.bool bR) (.slice bO bL bC) (w.heap.size + 1 + 1) W y2) := S8.call hS1.out hK g2; replace kd := kd.mono g2 kd.lt; replace hz1 := hid' (hz1.out.mono g2); replace N2 := hid' (N2.out.mono g2); replace N4 := hid' (N4.out.mono g2))
      | (go_at_call 43; refine (times_num _ _ n e' L M _ N1.out N4.out (by omega) (by omega)).mono ?_; rintro e y1 ⟨z, rfl, hz, g1⟩; obtain ⟨r1, o1, l1, c1, rfl, hz1⟩ := hz.shape; clear hz; have hS1 : Hid (S8 w.heap.size (w.heap.size + 1) (.bool ar) (.slice ao al ac) (.bool aR) (.slice aO aL aC) (.bool br) (.slice bo bl bc) (.bool bR) (.slice bO bL bC) (w.heap.size + 1 + 1) W y1) := S8.call hS0.out hK g1; replace kd := kd.mono g1 kd.lt; replace N2 := hid' (N2.out.mono g1); replace N3 := hid' (N3.out.mono g1); replace N4 := hid' (N4.out.mono g1)))
  all_goals
    have hB := hid' (hF0.trans (hS4.out.2.2.2.2.2.2.2.2.mono (by omega)))
    go_wp2
    refine bodyPost_ret (v := .agg #[.bool r3, .slice o3 l3 c3, .bool r4, .slice o4 l4 c4]) (by simp [results, Try.results38, go_sem, d0, d1, d2, d3]) rfl ⟨_, rfl, ⟨r3, o3, l3, c3, r4, o4, l4, c4, rfl, ?_, ?_⟩, ?_⟩
    · exact (hz3.out.setQ kd _ _ _ _).le (by omega)
    · exact (hz4.out.setQ kd _ _ _ _).le (by omega)
    · exact (((hB.out.setCell (by simp only []; omega) _).setCell (by simp only []; omega) _).setCell (by simp only []; omega) _).setCell (by simp only []; omega) _
end Go.Proofs.Ytagabccaipfjeaa
