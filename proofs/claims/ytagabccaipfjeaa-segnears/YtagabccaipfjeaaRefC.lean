/- Contracts of the reference's fractions: whole, Sign, mul, add. Contracts of the reference's fractions: Cmp, sub, quo. Contract of the reference's quotient of fractions. -/
import Derived.Test.YtagabccaipfjeaaRefB
namespace Go.Proofs.Ytagabccaipfjeaa
section
open Go.RowKit Go.Sort

/-- A fraction in memory, of at most L words each. -/
def Rt (w : World) (x : Value) (n d : Int) (L : Nat) : Prop := ∃ r o l c R O M C, x = .agg #[.bool r, .slice o l c, .bool R, .slice O M C] ∧ Nm w (.agg #[.bool r, .slice o l c]) n L ∧ Nm w (.agg #[.bool R, .slice O M C]) d L
theorem Rt.mono {w w' : World} {x : Value} {n d : Int} {L : Nat} (h : Rt w x n d L) (g : Below w.heap.size w w') : Rt w' x n d L := by
  obtain ⟨r, o, l, c, R, O, M, C, e, h1, h2⟩ := h; exact ⟨r, o, l, c, R, O, M, C, e, h1.mono g, h2.mono g⟩
theorem Rt.le {w : World} {x : Value} {n d : Int} {L K : Nat} (h : Rt w x n d L) (k : L ≤ K) : Rt w x n d K := by
  obtain ⟨r, o, l, c, R, O, M, C, e, h1, h2⟩ := h; exact ⟨r, o, l, c, R, O, M, C, e, h1.le k, h2.le k⟩
def Q4 (w : World) (b : Nat) (x0 x1 x2 x3 : Value) : Prop := w.heap[b]? = some (.cells #[x0, x1, x2, x3] 53 (0, 0))
section
variable {w w' : World} {b : Nat} {x0 x1 x2 x3 : Value}
theorem Q4.lt (h : Q4 w b x0 x1 x2 x3) : b < w.heap.size := lt_of_block h
theorem Q4.c0 (h : Q4 w b x0 x1 x2 x3) : w.cell? ⟨b, 0, none⟩ = some x0 := by unfold Q4 at h; simp [World.cell?, h]
theorem Q4.c1 (h : Q4 w b x0 x1 x2 x3) : w.cell? ⟨b, 1, none⟩ = some x1 := by unfold Q4 at h; simp [World.cell?, h]
theorem Q4.c2 (h : Q4 w b x0 x1 x2 x3) : w.cell? ⟨b, 2, none⟩ = some x2 := by unfold Q4 at h; simp [World.cell?, h]
theorem Q4.c3 (h : Q4 w b x0 x1 x2 x3) : w.cell? ⟨b, 3, none⟩ = some x3 := by unfold Q4 at h; simp [World.cell?, h]
theorem Q4.f (h : Q4 w b x0 x1 x2 x3) (o : Nat) : w.frozen? ⟨b, o, none⟩ = false := by unfold Q4 at h; simp [World.frozen?, h]
theorem Q4.at (h : Q4 w b x0 x1 x2 x3) : w.heap[b]'(h.lt) = .cells #[x0, x1, x2, x3] 53 (0, 0) := by
  have hlt := h.lt
  unfold Q4 at h; simpa [Array.getElem?_eq_getElem hlt] using h
theorem Q4.s0 (h : Q4 w b x0 x1 x2 x3) (z : Value) : Q4 (w.setCell ⟨b, 0, none⟩ z) b z x1 x2 x3 := by
  have hlt := h.lt
  show (w.heap.modify b _)[b]? = _
  rw [Array.getElem?_eq_getElem (by simpa using hlt), Array.getElem_modify_self, h.at]; rfl
theorem Q4.s1 (h : Q4 w b x0 x1 x2 x3) (z : Value) : Q4 (w.setCell ⟨b, 1, none⟩ z) b x0 z x2 x3 := by
  have hlt := h.lt
  show (w.heap.modify b _)[b]? = _
  rw [Array.getElem?_eq_getElem (by simpa using hlt), Array.getElem_modify_self, h.at]; rfl
theorem Q4.s2 (h : Q4 w b x0 x1 x2 x3) (z : Value) : Q4 (w.setCell ⟨b, 2, none⟩ z) b x0 x1 z x3 := by
  have hlt := h.lt
  show (w.heap.modify b _)[b]? = _
  rw [Array.getElem?_eq_getElem (by simpa using hlt), Array.getElem_modify_self, h.at]; rfl
theorem Q4.s3 (h : Q4 w b x0 x1 x2 x3) (z : Value) : Q4 (w.setCell ⟨b, 3, none⟩ z) b x0 x1 x2 z := by
  have hlt := h.lt
  show (w.heap.modify b _)[b]? = _
  rw [Array.getElem?_eq_getElem (by simpa using hlt), Array.getElem_modify_self, h.at]; rfl
theorem Q4.mono {B : Nat} (h : Q4 w b x0 x1 x2 x3) (g : Below B w w') (hb : b < B) : Q4 w' b x0 x1 x2 x3 := by
  unfold Q4; rw [g.block b hb]; exact h
theorem Q4.other (h : Q4 w b x0 x1 x2 x3) {p : Addr} (hp : b ≠ p.block) (z : Value) : Q4 (w.setCell p z) b x0 x1 x2 x3 := by
  unfold Q4; rw [Below.heap_setCell _ _ _ _ hp]; exact h
theorem Q4.gr (h : Q4 w b x0 x1 x2 x3) (g : Gr w w') : Q4 w' b x0 x1 x2 x3 := h.mono g.below h.lt
end
theorem Q4.new (w : World) (x0 x1 x2 x3 : Value) : Q4 (w.alloc (.cells #[x0, x1, x2, x3] 53)) w.heap.size x0 x1 x2 x3 := heap_alloc_new w _
theorem Q4.no {w : World} {b : Nat} {x0 x1 x2 x3 : Value} (h : Q4 w b x0 x1 x2 x3) : ∀ cur, w.heap[b]? ≠ some (.cells cur 80 (0, 0)) := fun cur e => by unfold Q4 at h; rw [h] at e; simp at e
theorem Nm.setQ {w : World} {x : Value} {n : Int} {L : Nat} (h : Nm w x n L) {b : Nat} {x0 x1 x2 x3 : Value} (hb : Q4 w b x0 x1 x2 x3) (y0 y1 y2 y3 : Value) : Nm ((((w.setCell ⟨b, 0, none⟩ y0).setCell ⟨b, 1, none⟩ y1).setCell ⟨b, 2, none⟩ y2).setCell ⟨b, 3, none⟩ y3) x n L :=
  (((h.set (p := ⟨b, 0, none⟩) hb.no y0).set (p := ⟨b, 1, none⟩) (hb.s0 y0).no y1).set (p := ⟨b, 2, none⟩) ((hb.s0 y0).s1 y1).no y2).set (p := ⟨b, 3, none⟩) (((hb.s0 y0).s1 y1).s2 y2).no y3
abbrev S8 (A B : Nat) (x0 x1 x2 x3 y0 y1 y2 y3 : Value) (K : Nat) (W : World) (w : World) : Prop :=
  w.cell? ⟨A, 0, none⟩ = some x0 ∧ w.cell? ⟨A, 1, none⟩ = some x1 ∧ w.cell? ⟨A, 2, none⟩ = some x2 ∧ w.cell? ⟨A, 3, none⟩ = some x3 ∧ w.cell? ⟨B, 0, none⟩ = some y0 ∧ w.cell? ⟨B, 1, none⟩ = some y1 ∧ w.cell? ⟨B, 2, none⟩ = some y2 ∧ w.cell? ⟨B, 3, none⟩ = some y3 ∧ Below K W w
theorem S8.call {A B : Nat} {x0 x1 x2 x3 y0 y1 y2 y3 : Value} {K : Nat} {W w w' : World} (h : S8 A B x0 x1 x2 x3 y0 y1 y2 y3 K W w) (hK : K ≤ W.heap.size) (g : Below w.heap.size w w') : S8 A B x0 x1 x2 x3 y0 y1 y2 y3 K W w' :=
  ⟨below_cell h.1 g, below_cell h.2.1 g, below_cell h.2.2.1 g, below_cell h.2.2.2.1 g, below_cell h.2.2.2.2.1 g, below_cell h.2.2.2.2.2.1 g, below_cell h.2.2.2.2.2.2.1 g, below_cell h.2.2.2.2.2.2.2.1 g, h.2.2.2.2.2.2.2.2.trans (g.mono (Nat.le_trans hK h.2.2.2.2.2.2.2.2.size))⟩
theorem S8.set {A B : Nat} {x0 x1 x2 x3 y0 y1 y2 y3 : Value} {K : Nat} {W w : World} (h : S8 A B x0 x1 x2 x3 y0 y1 y2 y3 K W w) {p : Addr} (hp : K ≤ p.block) (hA : A < K) (hB : B < K) (z : Value) : S8 A B x0 x1 x2 x3 y0 y1 y2 y3 K W (w.setCell p z) :=
  have f : ∀ a : Addr, a.block < K → (w.setCell p z).cell? a = w.cell? a := fun a ha => World.cell?_setCell_far w p a z (by omega)
  ⟨(f _ hA).trans h.1, (f _ hA).trans h.2.1, (f _ hA).trans h.2.2.1, (f _ hA).trans h.2.2.2.1, (f _ hB).trans h.2.2.2.2.1, (f _ hB).trans h.2.2.2.2.2.1, (f _ hB).trans h.2.2.2.2.2.2.1, (f _ hB).trans h.2.2.2.2.2.2.2.1, h.2.2.2.2.2.2.2.2.setCell hp z⟩

set_option maxHeartbeats 1000000 in
theorem whole_rt (n : Int) (w : World) (h0 : -9223372036854775808 ≤ n) (h1 : n ≤ 9223372036854775807) : Calls Try.prog 26 #[.int .i64 n] w fun e w' => ∃ z, e = .returned z ∧ Rt w' z n 1 2 ∧ Below w.heap.size w w' := by
  have K1 := hid' (fun W => of_num n W h0 h1)
  have K2 := hid' (fun W => of_num 1 W (by omega) (by omega))
  have q0 : Q4 (w.alloc (.cells #[.bool false, .slice none 0 0, .bool false, .slice none 0 0] 53)) w.heap.size (.bool false) (.slice none 0 0) (.bool false) (.slice none 0 0) := Q4.new w _ _ _ _
  have hF : Below w.heap.size w (w.alloc (.cells #[.bool false, .slice none 0 0, .bool false, .slice none 0 0] 53)) := ((Gr.refl _).alloc _).below
  clear h0 h1
  go_enter Try.func26, Try.ntmps26
  go_wp2_with fail
  refine (K1.out _).mono ?_
  rintro e w1 ⟨z, rfl, hz, g1⟩
  obtain ⟨r1, o1, l1, c1, rfl, hz1⟩ := hz.shape
  clear hz
  go_wp2_with fail
  refine (K2.out _).mono ?_
  rintro e w2 ⟨z, rfl, hz, g2⟩
  obtain ⟨r2, o2, l2, c2, rfl, hz2⟩ := hz.shape
  clear hz
  have hn1 := hid' (hz1.out.gr g2)
  have q2 := (q0.gr g1).gr g2
  have hF2 := (hF.trans (g1.below.mono hF.size))
  have hF3 := hF2.trans (g2.below.mono hF2.size)
  have d0 := q2.c0
  have d1 := q2.c1
  have d2 := q2.c2
  have d3 := q2.c3
  have df := q2.f
  clear hz1 K1 K2 q0 g1 g2 hF hF2
  go_wp2
  refine bodyPost_ret (v := .agg #[.bool r1, .slice o1 l1 c1, .bool r2, .slice o2 l2 c2]) (by simp [results, Try.results26, go_sem, d0, d1, d2, d3]) rfl ⟨_, rfl, ⟨r1, o1, l1, c1, r2, o2, l2, c2, rfl, ?_, ?_⟩, ?_⟩
  · exact hn1.out.setQ q2 _ _ _ _
  · exact hz2.out.setQ q2 _ _ _ _
  · exact (((hF3.setCell (by simp only []; omega) _).setCell (by simp only []; omega) _).setCell (by simp only []; omega) _).setCell (by simp only []; omega) _
set_option maxHeartbeats 1000000 in
theorem rsign_rt (x : Value) (n d : Int) (L : Nat) (w : World) (h : Rt w x n d L) : Calls Try.prog 24 #[x] w fun e w' => e = .returned (.int .i64 (cmpI n 0)) ∧ Below w.heap.size w w' := by
  obtain ⟨r, o, l, c, R, O, M, C, rfl, h1, _⟩ := h
  have K := hid' (fun W (g : Gr w W) => sign_num _ n L W (h1.gr g))
  clear h1
  go_enter Try.func24, Try.ntmps24
  go_wp2_with fail
  refine (K.out _ ((Gr.refl _).alloc _)).mono ?_
  rintro e w1 ⟨rfl, g1⟩
  go_wp2
  go_ret
  exact ⟨rfl, (((Gr.refl _).alloc _).trans g1).below⟩
set_option maxRecDepth 20000 in
set_option maxHeartbeats 2000000 in
theorem rmul_rt (x y : Value) (n d m e' : Int) (L M : Nat) (w : World) (hx : Rt w x n d L) (hy : Rt w y m e' M) (hL : L ≤ 400) (hM : M ≤ 400) :
    Calls Try.prog 39 #[x, y] w fun e w' => ∃ z, e = .returned z ∧ Rt w' z (n * m) (d * e') (L + M) ∧ Below w.heap.size w w' := by
  obtain ⟨ar, ao, al, ac, aR, aO, aL, aC, rfl, ha1, ha2⟩ := hx
  obtain ⟨br, bo, bl, bc, bR, bO, bL, bC, rfl, hb1, hb2⟩ := hy
  have k0 : Q4 (((w.alloc (.cells #[.bool ar, .slice ao al ac, .bool aR, .slice aO aL aC] 53)).alloc (.cells #[.bool br, .slice bo bl bc, .bool bR, .slice bO bL bC] 53)).alloc (.cells #[.bool false, .slice none 0 0, .bool false, .slice none 0 0] 53)) w.heap.size (.bool ar) (.slice ao al ac) (.bool aR) (.slice aO aL aC) := (Q4.new w _ _ _ _).gr (((Gr.refl _).alloc _).alloc _)
  have k1 : Q4 (((w.alloc (.cells #[.bool ar, .slice ao al ac, .bool aR, .slice aO aL aC] 53)).alloc (.cells #[.bool br, .slice bo bl bc, .bool bR, .slice bO bL bC] 53)).alloc (.cells #[.bool false, .slice none 0 0, .bool false, .slice none 0 0] 53)) (w.heap.size + 1) (.bool br) (.slice bo bl bc) (.bool bR) (.slice bO bL bC) := by
    have := (Q4.new (w.alloc (.cells #[.bool ar, .slice ao al ac, .bool aR, .slice aO aL aC] 53)) (.bool br) (.slice bo bl bc) (.bool bR) (.slice bO bL bC)).gr ((Gr.refl _).alloc (.cells #[.bool false, .slice none 0 0, .bool false, .slice none 0 0] 53))
    simpa using this
  have k2 : Q4 (((w.alloc (.cells #[.bool ar, .slice ao al ac, .bool aR, .slice aO aL aC] 53)).alloc (.cells #[.bool br, .slice bo bl bc, .bool bR, .slice bO bL bC] 53)).alloc (.cells #[.bool false, .slice none 0 0, .bool false, .slice none 0 0] 53)) (w.heap.size + 1 + 1) (.bool false) (.slice none 0 0) (.bool false) (.slice none 0 0) := by
    have := Q4.new ((w.alloc (.cells #[.bool ar, .slice ao al ac, .bool aR, .slice aO aL aC] 53)).alloc (.cells #[.bool br, .slice bo bl bc, .bool bR, .slice bO bL bC] 53)) (.bool false) (.slice none 0 0) (.bool false) (.slice none 0 0)
    simpa using this
  have hF0 : Below w.heap.size w (((w.alloc (.cells #[.bool ar, .slice ao al ac, .bool aR, .slice aO aL aC] 53)).alloc (.cells #[.bool br, .slice bo bl bc, .bool bR, .slice bO bL bC] 53)).alloc (.cells #[.bool false, .slice none 0 0, .bool false, .slice none 0 0] 53)) := ((((Gr.refl _).alloc _).alloc _).alloc _).below
  have hK : w.heap.size + 1 + 1 ≤ (((w.alloc (.cells #[.bool ar, .slice ao al ac, .bool aR, .slice aO aL aC] 53)).alloc (.cells #[.bool br, .slice bo bl bc, .bool bR, .slice bO bL bC] 53)).alloc (.cells #[.bool false, .slice none 0 0, .bool false, .slice none 0 0] 53)).heap.size := by simp
  have hD : Below w.heap.size w (((w.alloc (.cells #[.bool ar, .slice ao al ac, .bool aR, .slice aO aL aC] 53)).alloc (.cells #[.bool br, .slice bo bl bc, .bool bR, .slice bO bL bC] 53)).alloc (.cells #[.bool false, .slice none 0 0, .bool false, .slice none 0 0] 53)).drew := ((((Gr.refl _).alloc _).alloc _).alloc _).drew.below
  have N1 := hid' (ha1.mono hD)
  have N2 := hid' (ha2.mono hD)
  have N3 := hid' (hb1.mono hD)
  have N4 := hid' (hb2.mono hD)
  clear ha1 ha2 hb1 hb2 hD
  go_enter Try.func39, Try.ntmps39
  go_upto_region 1 with fail
  generalize (((w.alloc (.cells #[.bool ar, .slice ao al ac, .bool aR, .slice aO aL aC] 53)).alloc (.cells #[.bool br, .slice bo bl bc, .bool bR, .slice bO bL bC] 53)).alloc (.cells #[.bool false, .slice none 0 0, .bool false, .slice none 0 0] 53)) = W at *
  have hS0 : Hid (S8 w.heap.size (w.heap.size + 1) (.bool ar) (.slice ao al ac) (.bool aR) (.slice aO aL aC) (.bool br) (.slice bo bl bc) (.bool bR) (.slice bO bL bC) (w.heap.size + 1 + 1) W W.drew) := ⟨k0.c0, k0.c1, k0.c2, k0.c3, k1.c0, k1.c1, k1.c2, k1.c3, (Below.refl _ _).drew⟩
  have kd : Q4 W.drew (w.heap.size + 1 + 1) (.bool false) (.slice none 0 0) (.bool false) (.slice none 0 0) := k2
  clear k0 k1 k2
  go_region_held3 (S8 w.heap.size (w.heap.size + 1) (.bool ar) (.slice ao al ac) (.bool aR) (.slice aO aL aC) (.bool br) (.slice bo bl bc) (.bool bR) (.slice bO bL bC) (w.heap.size + 1 + 1) W)
    (repeat (first | with_reducible exact hS5.out | with_reducible exact hS4.out | with_reducible exact hS3.out | with_reducible exact hS2.out | with_reducible exact hS1.out | with_reducible exact hS0.out | (with_reducible refine S8.set ?_ (by simp only []; omega) (by omega) (by omega) _)))
    (first
      | (have _n0 := hz1; go_at_call 43; refine (times_num _ _ d e' L M _ N2.out N4.out hL hM).mono ?_; rintro e y2 ⟨z, rfl, hz, g2⟩; obtain ⟨r2, o2, l2, c2, rfl, hz2⟩ := hz.shape; clear hz; have hS2 : Hid (S8 w.heap.size (w.heap.size + 1) (.bool ar) (.slice ao al ac) (.bool aR) (.slice aO aL aC) (.bool br) (.slice bo bl bc) (.bool bR) (.slice bO bL bC) (w.heap.size + 1 + 1) W y2) := S8.call hS1.out hK g2; replace kd := kd.mono g2 kd.lt; replace hz1 := hid' (hz1.out.mono g2); have d0 := kd.c0; have d1 := kd.c1; have d2 := kd.c2; have d3 := kd.c3; have df := kd.f)
      | (go_at_call 43; refine (times_num _ _ n m L M _ N1.out N3.out hL hM).mono ?_; rintro e y1 ⟨z, rfl, hz, g1⟩; obtain ⟨r1, o1, l1, c1, rfl, hz1⟩ := hz.shape; clear hz; have hS1 : Hid (S8 w.heap.size (w.heap.size + 1) (.bool ar) (.slice ao al ac) (.bool aR) (.slice aO aL aC) (.bool br) (.slice bo bl bc) (.bool bR) (.slice bO bL bC) (w.heap.size + 1 + 1) W y1) := S8.call hS0.out hK g1; replace kd := kd.mono g1 kd.lt; replace N2 := hid' (N2.out.mono g1); replace N4 := hid' (N4.out.mono g1)))
  all_goals
    have hB := hid' (hF0.trans (hS2.out.2.2.2.2.2.2.2.2.mono (by omega)))
    go_wp2
    refine bodyPost_ret (v := .agg #[.bool r1, .slice o1 l1 c1, .bool r2, .slice o2 l2 c2]) (by simp [results, Try.results39, go_sem, d0, d1, d2, d3]) rfl ⟨_, rfl, ⟨r1, o1, l1, c1, r2, o2, l2, c2, rfl, ?_, ?_⟩, ?_⟩
    · exact (hz1.out.setQ kd _ _ _ _).le (by omega)
    · exact (hz2.out.setQ kd _ _ _ _).le (by omega)
    · exact (((hB.out.setCell (by simp only []; omega) _).setCell (by simp only []; omega) _).setCell (by simp only []; omega) _).setCell (by simp only []; omega) _
set_option maxRecDepth 20000 in
set_option maxHeartbeats 2000000 in
theorem radd_rt (x y : Value) (n d m e' : Int) (L M : Nat) (w : World) (hx : Rt w x n d L) (hy : Rt w y m e' M) (hL : L + M ≤ 400) :
    Calls Try.prog 38 #[x, y] w fun e w' => ∃ z, e = .returned z ∧ Rt w' z (n * e' + m * d) (d * e') (L + M + 1) ∧ Below w.heap.size w w' := by
  obtain ⟨ar, ao, al, ac, aR, aO, aL, aC, rfl, ha1, ha2⟩ := hx
  obtain ⟨br, bo, bl, bc, bR, bO, bL, bC, rfl, hb1, hb2⟩ := hy
  have k0 : Q4 (((w.alloc (.cells #[.bool ar, .slice ao al ac, .bool aR, .slice aO aL aC] 53)).alloc (.cells #[.bool br, .slice bo bl bc, .bool bR, .slice bO bL bC] 53)).alloc (.cells #[.bool false, .slice none 0 0, .bool false, .slice none 0 0] 53)) w.heap.size (.bool ar) (.slice ao al ac) (.bool aR) (.slice aO aL aC) := (Q4.new w _ _ _ _).gr (((Gr.refl _).alloc _).alloc _)
  have k1 : Q4 (((w.alloc (.cells #[.bool ar, .slice ao al ac, .bool aR, .slice aO aL aC] 53)).alloc (.cells #[.bool br, .slice bo bl bc, .bool bR, .slice bO bL bC] 53)).alloc (.cells #[.bool false, .slice none 0 0, .bool false, .slice none 0 0] 53)) (w.heap.size + 1) (.bool br) (.slice bo bl bc) (.bool bR) (.slice bO bL bC) := by
    have := (Q4.new (w.alloc (.cells #[.bool ar, .slice ao al ac, .bool aR, .slice aO aL aC] 53)) (.bool br) (.slice bo bl bc) (.bool bR) (.slice bO bL bC)).gr ((Gr.refl _).alloc (.cells #[.bool false, .slice none 0 0, .bool false, .slice none 0 0] 53))
    simpa using this
  have k2 : Q4 (((w.alloc (.cells #[.bool ar, .slice ao al ac, .bool aR, .slice aO aL aC] 53)).alloc (.cells #[.bool br, .slice bo bl bc, .bool bR, .slice bO bL bC] 53)).alloc (.cells #[.bool false, .slice none 0 0, .bool false, .slice none 0 0] 53)) (w.heap.size + 1 + 1) (.bool false) (.slice none 0 0) (.bool false) (.slice none 0 0) := by
    have := Q4.new ((w.alloc (.cells #[.bool ar, .slice ao al ac, .bool aR, .slice aO aL aC] 53)).alloc (.cells #[.bool br, .slice bo bl bc, .bool bR, .slice bO bL bC] 53)) (.bool false) (.slice none 0 0) (.bool false) (.slice none 0 0)
    simpa using this
  have hF0 : Below w.heap.size w (((w.alloc (.cells #[.bool ar, .slice ao al ac, .bool aR, .slice aO aL aC] 53)).alloc (.cells #[.bool br, .slice bo bl bc, .bool bR, .slice bO bL bC] 53)).alloc (.cells #[.bool false, .slice none 0 0, .bool false, .slice none 0 0] 53)) := ((((Gr.refl _).alloc _).alloc _).alloc _).below
  have hK : w.heap.size + 1 + 1 ≤ (((w.alloc (.cells #[.bool ar, .slice ao al ac, .bool aR, .slice aO aL aC] 53)).alloc (.cells #[.bool br, .slice bo bl bc, .bool bR, .slice bO bL bC] 53)).alloc (.cells #[.bool false, .slice none 0 0, .bool false, .slice none 0 0] 53)).heap.size := by simp
  have hD : Below w.heap.size w (((w.alloc (.cells #[.bool ar, .slice ao al ac, .bool aR, .slice aO aL aC] 53)).alloc (.cells #[.bool br, .slice bo bl bc, .bool bR, .slice bO bL bC] 53)).alloc (.cells #[.bool false, .slice none 0 0, .bool false, .slice none 0 0] 53)).drew := ((((Gr.refl _).alloc _).alloc _).alloc _).drew.below
  have N1 := hid' (ha1.mono hD)
  have N2 := hid' (ha2.mono hD)
  have N3 := hid' (hb1.mono hD)
  have N4 := hid' (hb2.mono hD)
  clear ha1 ha2 hb1 hb2 hD
  go_enter Try.func38, Try.ntmps38
  go_upto_region 1 with fail
  generalize (((w.alloc (.cells #[.bool ar, .slice ao al ac, .bool aR, .slice aO aL aC] 53)).alloc (.cells #[.bool br, .slice bo bl bc, .bool bR, .slice bO bL bC] 53)).alloc (.cells #[.bool false, .slice none 0 0, .bool false, .slice none 0 0] 53)) = W at *
  have hS0 : Hid (S8 w.heap.size (w.heap.size + 1) (.bool ar) (.slice ao al ac) (.bool aR) (.slice aO aL aC) (.bool br) (.slice bo bl bc) (.bool bR) (.slice bO bL bC) (w.heap.size + 1 + 1) W W.drew) := ⟨k0.c0, k0.c1, k0.c2, k0.c3, k1.c0, k1.c1, k1.c2, k1.c3, (Below.refl _ _).drew⟩
  have kd : Q4 W.drew (w.heap.size + 1 + 1) (.bool false) (.slice none 0 0) (.bool false) (.slice none 0 0) := k2
  clear k0 k1 k2
  go_region_held3 (S8 w.heap.size (w.heap.size + 1) (.bool ar) (.slice ao al ac) (.bool aR) (.slice aO aL aC) (.bool br) (.slice bo bl bc) (.bool bR) (.slice bO bL bC) (w.heap.size + 1 + 1) W)
    (repeat (first | with_reducible exact hS5.out | with_reducible exact hS4.out | with_reducible exact hS3.out | with_reducible exact hS2.out | with_reducible exact hS1.out | with_reducible exact hS0.out | (with_reducible refine S8.set ?_ (by simp only []; omega) (by omega) (by omega) _)))
    (first
      | (have _n0 := hz3; go_at_call 43; refine (times_num _ _ d e' L M _ N2.out N4.out (by omega) (by omega)).mono ?_; rintro e y4 ⟨z, rfl, hz, g4⟩; obtain ⟨r4, o4, l4, c4, rfl, hz4⟩ := hz.shape; clear hz; have hS4 : Hid (S8 w.heap.size (w.heap.size + 1) (.bool ar) (.slice ao al ac) (.bool aR) (.slice aO aL aC) (.bool br) (.slice bo bl bc) (.bool bR) (.slice bO bL bC) (w.heap.size + 1 + 1) W y4) := S8.call hS3.out hK g4; replace kd := kd.mono g4 kd.lt; replace hz3 := hid' (hz3.out.mono g4); have d0 := kd.c0; have d1 := kd.c1; have d2 := kd.c2; have d3 := kd.c3; have df := kd.f)
      | (go_at_call 46; refine (plus_num _ _ (n * e') (m * d) (L + M) (L + M) _ hz1.out (hz2.out.le (by omega)) (by omega) (by omega)).mono ?_; rintro e y3 ⟨z, rfl, hz, g3⟩; obtain ⟨r3, o3, l3, c3, rfl, hz3⟩ := hz.shape; clear hz; have hS3 : Hid (S8 w.heap.size (w.heap.size + 1) (.bool ar) (.slice ao al ac) (.bool aR) (.slice aO aL aC) (.bool br) (.slice bo bl bc) (.bool bR) (.slice bO bL bC) (w.heap.size + 1 + 1) W y3) := S8.call hS2.out hK g3; replace kd := kd.mono g3 kd.lt; replace N2 := hid' (N2.out.mono g3); replace N4 := hid' (N4.out.mono g3))
      | (have _n0 := hz1; go_at_call 43; refine (times_num _ _ m d M L _ N3.out N2.out (by omega) (by omega)).mono ?_; rintro e y2 ⟨z, rfl, hz, g2⟩; obtain ⟨r2, o2, l2, c2, rfl, hz2⟩ := hz.shape; clear hz; have hS2 : Hid (S8 w.heap.size (w.heap.size + 1) (.bool ar) (.slice ao al ac) (.bool aR) (.slice aO aL aC) (.bool br) (.slice bo bl bc) (.bool bR) (.slice bO bL bC) (w.heap.size + 1 + 1) W y2) := S8.call hS1.out hK g2; replace kd := kd.mono g2 kd.lt; replace hz1 := hid' (hz1.out.mono g2); replace N2 := hid' (N2.out.mono g2); replace N4 := hid' (N4.out.mono g2))
      | (go_at_call 43; refine (times_num _ _ n e' L M _ N1.out N4.out (by omega) (by omega)).mono ?_; rintro e y1 ⟨z, rfl, hz, g1⟩; obtain ⟨r1, o1, l1, c1, rfl, hz1⟩ := hz.shape; clear hz; have hS1 : Hid (S8 w.heap.size (w.heap.size + 1) (.bool ar) (.slice ao al ac) (.bool aR) (.slice aO aL aC) (.bool br) (.slice bo bl bc) (.bool bR) (.slice bO bL bC) (w.heap.size + 1 + 1) W y1) := S8.call hS0.out hK g1; replace kd := kd.mono g1 kd.lt; replace N2 := hid' (N2.out.mono g1); replace N3 := hid' (N3.out.mono g1); replace N4 := hid' (N4.out.mono g1)))
  all_goals
    have hB := hid' (hF0.trans (hS4.out.2.2.2.2.2.2.2.2.mono (by omega)))
    go_wp2
    refine bodyPost_ret (v := .agg #[.bool r3, .slice o3 l3 c3, .bool r4, .slice o4 l4 c4]) (by simp [results, Try.results38, go_sem, d0, d1, d2, d3]) rfl ⟨_, rfl, ⟨r3, o3, l3, c3, r4, o4, l4, c4, rfl, ?_, ?_⟩, ?_⟩
    · exact (hz3.out.setQ kd _ _ _ _).le (by omega)
    · exact (hz4.out.setQ kd _ _ _ _).le (by omega)
    · exact (((hB.out.setCell (by simp only []; omega) _).setCell (by simp only []; omega) _).setCell (by simp only []; omega) _).setCell (by simp only []; omega) _
end
section
open Go.RowKit Go.Sort

theorem other_b (x : Value) (n : Int) (L : Nat) (w : World) (h : Nm w x n L) : Calls Try.prog 44 #[x] w fun e w' => ∃ z, e = .returned z ∧ Nm w' z (-n) L ∧ Below w.heap.size w w' :=
  (other_num x n L w h).mono fun _ _ ⟨z, e, h, g⟩ => ⟨z, e, h, g.below⟩
theorem cmp_dif (a b : Int) : cmpI (a + -b) 0 = cmpI a b := by unfold cmpI; split <;> split <;> (try split) <;> (try split) <;> omega
set_option maxRecDepth 20000 in
set_option maxHeartbeats 2000000 in
theorem rcmp_rt (x y : Value) (n d m e' : Int) (L M : Nat) (w : World) (hx : Rt w x n d L) (hy : Rt w y m e' M) (hL : L + M ≤ 400) :
    Calls Try.prog 27 #[x, y] w fun e w' => e = .returned (.int .i64 (cmpI (n * e') (m * d))) ∧ Below w.heap.size w w' := by
  obtain ⟨ar, ao, al, ac, aR, aO, aL, aC, rfl, ha1, ha2⟩ := hx
  obtain ⟨br, bo, bl, bc, bR, bO, bL, bC, rfl, hb1, hb2⟩ := hy
  have k0 : Q4 ((w.alloc (.cells #[.bool ar, .slice ao al ac, .bool aR, .slice aO aL aC] 53)).alloc (.cells #[.bool br, .slice bo bl bc, .bool bR, .slice bO bL bC] 53)) w.heap.size (.bool ar) (.slice ao al ac) (.bool aR) (.slice aO aL aC) := (Q4.new w _ _ _ _).gr ((Gr.refl _).alloc _)
  have k1 : Q4 ((w.alloc (.cells #[.bool ar, .slice ao al ac, .bool aR, .slice aO aL aC] 53)).alloc (.cells #[.bool br, .slice bo bl bc, .bool bR, .slice bO bL bC] 53)) (w.heap.size + 1) (.bool br) (.slice bo bl bc) (.bool bR) (.slice bO bL bC) := by
    have := (Q4.new (w.alloc (.cells #[.bool ar, .slice ao al ac, .bool aR, .slice aO aL aC] 53)) (.bool br) (.slice bo bl bc) (.bool bR) (.slice bO bL bC))
    simpa using this
  have hF0 : Below w.heap.size w ((w.alloc (.cells #[.bool ar, .slice ao al ac, .bool aR, .slice aO aL aC] 53)).alloc (.cells #[.bool br, .slice bo bl bc, .bool bR, .slice bO bL bC] 53)) := (((Gr.refl _).alloc _).alloc _).below
  have hK : w.heap.size + 1 + 1 ≤ ((w.alloc (.cells #[.bool ar, .slice ao al ac, .bool aR, .slice aO aL aC] 53)).alloc (.cells #[.bool br, .slice bo bl bc, .bool bR, .slice bO bL bC] 53)).heap.size := by simp
  have hD : Below w.heap.size w ((w.alloc (.cells #[.bool ar, .slice ao al ac, .bool aR, .slice aO aL aC] 53)).alloc (.cells #[.bool br, .slice bo bl bc, .bool bR, .slice bO bL bC] 53)).drew := (((Gr.refl _).alloc _).alloc _).drew.below
  have N1 := hid' (ha1.mono hD)
  have N2 := hid' (ha2.mono hD)
  have N3 := hid' (hb1.mono hD)
  have N4 := hid' (hb2.mono hD)
  clear ha1 ha2 hb1 hb2 hD
  have E := hid' (cmp_dif (n * e') (m * d))
  go_enter Try.func27, Try.ntmps27
  go_upto_region 1 with fail
  generalize ((w.alloc (.cells #[.bool ar, .slice ao al ac, .bool aR, .slice aO aL aC] 53)).alloc (.cells #[.bool br, .slice bo bl bc, .bool bR, .slice bO bL bC] 53)) = W at *
  have hS0 : Hid (S8 w.heap.size (w.heap.size + 1) (.bool ar) (.slice ao al ac) (.bool aR) (.slice aO aL aC) (.bool br) (.slice bo bl bc) (.bool bR) (.slice bO bL bC) (w.heap.size + 1 + 1) W W.drew) := ⟨k0.c0, k0.c1, k0.c2, k0.c3, k1.c0, k1.c1, k1.c2, k1.c3, (Below.refl _ _).drew⟩
  clear k0 k1
  go_region_held3 (S8 w.heap.size (w.heap.size + 1) (.bool ar) (.slice ao al ac) (.bool aR) (.slice aO aL aC) (.bool br) (.slice bo bl bc) (.bool bR) (.slice bO bL bC) (w.heap.size + 1 + 1) W)
    (repeat (first | with_reducible exact hS5.out | with_reducible exact hS4.out | with_reducible exact hS3.out | with_reducible exact hS2.out | with_reducible exact hS1.out | with_reducible exact hS0.out | (with_reducible refine S8.set ?_ (by simp only []; omega) (by omega) (by omega) _)))
    (first
      | (go_at_call 42; refine (sign_num _ (n * e' + -(m * d)) _ _ hz4.out).mono ?_; rintro e y5 ⟨rfl, g5⟩; have hS5 : Hid (S8 w.heap.size (w.heap.size + 1) (.bool ar) (.slice ao al ac) (.bool aR) (.slice aO aL aC) (.bool br) (.slice bo bl bc) (.bool bR) (.slice bO bL bC) (w.heap.size + 1 + 1) W y5) := S8.call hS4.out hK g5.below)
      | (go_at_call 46; refine (plus_num _ _ (n * e') (-(m * d)) (L + M) (L + M) _ hz1.out (hz3.out.le (by omega)) (by omega) (by omega)).mono ?_; rintro e y4 ⟨z, rfl, hz, g4⟩; obtain ⟨r4, o4, l4, c4, rfl, hz4⟩ := hz.shape; clear hz; have hS4 : Hid (S8 w.heap.size (w.heap.size + 1) (.bool ar) (.slice ao al ac) (.bool aR) (.slice aO aL aC) (.bool br) (.slice bo bl bc) (.bool bR) (.slice bO bL bC) (w.heap.size + 1 + 1) W y4) := S8.call hS3.out hK g4)
      | (go_at_call 44; refine (other_b _ (m * d) (M + L) _ hz2.out).mono ?_; rintro e y3 ⟨z, rfl, hz, g3⟩; obtain ⟨r3, o3, l3, c3, rfl, hz3⟩ := hz.shape; clear hz; have hS3 : Hid (S8 w.heap.size (w.heap.size + 1) (.bool ar) (.slice ao al ac) (.bool aR) (.slice aO aL aC) (.bool br) (.slice bo bl bc) (.bool bR) (.slice bO bL bC) (w.heap.size + 1 + 1) W y3) := S8.call hS2.out hK g3; replace hz1 := hid' (hz1.out.mono g3))
      | (have _n0 := hz1; go_at_call 43; refine (times_num _ _ m d M L _ N3.out N2.out (by omega) (by omega)).mono ?_; rintro e y2 ⟨z, rfl, hz, g2⟩; obtain ⟨r2, o2, l2, c2, rfl, hz2⟩ := hz.shape; clear hz; have hS2 : Hid (S8 w.heap.size (w.heap.size + 1) (.bool ar) (.slice ao al ac) (.bool aR) (.slice aO aL aC) (.bool br) (.slice bo bl bc) (.bool bR) (.slice bO bL bC) (w.heap.size + 1 + 1) W y2) := S8.call hS1.out hK g2; replace hz1 := hid' (hz1.out.mono g2))
      | (go_at_call 43; refine (times_num _ _ n e' L M _ N1.out N4.out (by omega) (by omega)).mono ?_; rintro e y1 ⟨z, rfl, hz, g1⟩; obtain ⟨r1, o1, l1, c1, rfl, hz1⟩ := hz.shape; clear hz; have hS1 : Hid (S8 w.heap.size (w.heap.size + 1) (.bool ar) (.slice ao al ac) (.bool aR) (.slice aO aL aC) (.bool br) (.slice bo bl bc) (.bool bR) (.slice bO bL bC) (w.heap.size + 1 + 1) W y1) := S8.call hS0.out hK g1; replace N2 := hid' (N2.out.mono g1); replace N3 := hid' (N3.out.mono g1)))
  all_goals
    have hB := hid' (hF0.trans (hS5.out.2.2.2.2.2.2.2.2.mono (by omega)))
    go_wp2
    go_ret
    exact ⟨by rw [← E.out]; rfl, hB.out⟩
set_option maxRecDepth 20000 in
set_option maxHeartbeats 2000000 in
theorem rsub_rt (x y : Value) (n d m e' : Int) (L M : Nat) (w : World) (hx : Rt w x n d L) (hy : Rt w y m e' M) (hL : L + M ≤ 400) :
    Calls Try.prog 37 #[x, y] w fun e w' => ∃ z, e = .returned z ∧ Rt w' z (n * e' + -m * d) (d * e') (L + M + 1) ∧ Below w.heap.size w w' := by
  obtain ⟨ar, ao, al, ac, aR, aO, aL, aC, rfl, ha1, ha2⟩ := hx
  obtain ⟨br, bo, bl, bc, bR, bO, bL, bC, rfl, hb1, hb2⟩ := hy
  have k0 : Q4 (((w.alloc (.cells #[.bool ar, .slice ao al ac, .bool aR, .slice aO aL aC] 53)).alloc (.cells #[.bool br, .slice bo bl bc, .bool bR, .slice bO bL bC] 53)).alloc (.cells #[.bool false, .slice none 0 0, .bool false, .slice none 0 0] 53)) w.heap.size (.bool ar) (.slice ao al ac) (.bool aR) (.slice aO aL aC) := (Q4.new w _ _ _ _).gr (((Gr.refl _).alloc _).alloc _)
  have k1 : Q4 (((w.alloc (.cells #[.bool ar, .slice ao al ac, .bool aR, .slice aO aL aC] 53)).alloc (.cells #[.bool br, .slice bo bl bc, .bool bR, .slice bO bL bC] 53)).alloc (.cells #[.bool false, .slice none 0 0, .bool false, .slice none 0 0] 53)) (w.heap.size + 1) (.bool br) (.slice bo bl bc) (.bool bR) (.slice bO bL bC) := by
    have := (Q4.new (w.alloc (.cells #[.bool ar, .slice ao al ac, .bool aR, .slice aO aL aC] 53)) (.bool br) (.slice bo bl bc) (.bool bR) (.slice bO bL bC)).gr ((Gr.refl _).alloc (.cells #[.bool false, .slice none 0 0, .bool false, .slice none 0 0] 53))
    simpa using this
  have k2 : Q4 (((w.alloc (.cells #[.bool ar, .slice ao al ac, .bool aR, .slice aO aL aC] 53)).alloc (.cells #[.bool br, .slice bo bl bc, .bool bR, .slice bO bL bC] 53)).alloc (.cells #[.bool false, .slice none 0 0, .bool false, .slice none 0 0] 53)) (w.heap.size + 1 + 1) (.bool false) (.slice none 0 0) (.bool false) (.slice none 0 0) := by
    have := Q4.new ((w.alloc (.cells #[.bool ar, .slice ao al ac, .bool aR, .slice aO aL aC] 53)).alloc (.cells #[.bool br, .slice bo bl bc, .bool bR, .slice bO bL bC] 53)) (.bool false) (.slice none 0 0) (.bool false) (.slice none 0 0)
    simpa using this
  have hF0 : Below w.heap.size w (((w.alloc (.cells #[.bool ar, .slice ao al ac, .bool aR, .slice aO aL aC] 53)).alloc (.cells #[.bool br, .slice bo bl bc, .bool bR, .slice bO bL bC] 53)).alloc (.cells #[.bool false, .slice none 0 0, .bool false, .slice none 0 0] 53)) := ((((Gr.refl _).alloc _).alloc _).alloc _).below
  have hK : w.heap.size + 1 + 1 ≤ (((w.alloc (.cells #[.bool ar, .slice ao al ac, .bool aR, .slice aO aL aC] 53)).alloc (.cells #[.bool br, .slice bo bl bc, .bool bR, .slice bO bL bC] 53)).alloc (.cells #[.bool false, .slice none 0 0, .bool false, .slice none 0 0] 53)).heap.size := by simp
  have hD : Below w.heap.size w (((w.alloc (.cells #[.bool ar, .slice ao al ac, .bool aR, .slice aO aL aC] 53)).alloc (.cells #[.bool br, .slice bo bl bc, .bool bR, .slice bO bL bC] 53)).alloc (.cells #[.bool false, .slice none 0 0, .bool false, .slice none 0 0] 53)).drew := ((((Gr.refl _).alloc _).alloc _).alloc _).drew.below
  have N1 := hid' (ha1.mono hD)
  have N2 := hid' (ha2.mono hD)
  have N3 := hid' (hb1.mono hD)
  have N4 := hid' (hb2.mono hD)
  clear ha1 ha2 hb1 hb2 hD
  go_enter Try.func37, Try.ntmps37
  go_upto_region 1 with fail
  generalize (((w.alloc (.cells #[.bool ar, .slice ao al ac, .bool aR, .slice aO aL aC] 53)).alloc (.cells #[.bool br, .slice bo bl bc, .bool bR, .slice bO bL bC] 53)).alloc (.cells #[.bool false, .slice none 0 0, .bool false, .slice none 0 0] 53)) = W at *
  have hS0 : Hid (S8 w.heap.size (w.heap.size + 1) (.bool ar) (.slice ao al ac) (.bool aR) (.slice aO aL aC) (.bool br) (.slice bo bl bc) (.bool bR) (.slice bO bL bC) (w.heap.size + 1 + 1) W W.drew) := ⟨k0.c0, k0.c1, k0.c2, k0.c3, k1.c0, k1.c1, k1.c2, k1.c3, (Below.refl _ _).drew⟩
  have kd : Q4 W.drew (w.heap.size + 1 + 1) (.bool false) (.slice none 0 0) (.bool false) (.slice none 0 0) := k2
  clear k0 k1 k2
  go_region_held3 (S8 w.heap.size (w.heap.size + 1) (.bool ar) (.slice ao al ac) (.bool aR) (.slice aO aL aC) (.bool br) (.slice bo bl bc) (.bool bR) (.slice bO bL bC) (w.heap.size + 1 + 1) W)
    (repeat (first | with_reducible exact hS5.out | with_reducible exact hS4.out | with_reducible exact hS3.out | with_reducible exact hS2.out | with_reducible exact hS1.out | with_reducible exact hS0.out | (with_reducible refine S8.set ?_ (by simp only []; omega) (by omega) (by omega) _)))
    (first
      | (go_at_call 38; refine (radd_rt _ _ n d (-m) e' L M _ ⟨_, _, _, _, _, _, _, _, rfl, N1.out, N2.out⟩ ⟨_, _, _, _, _, _, _, _, rfl, hz1.out, N4.out⟩ hL).mono ?_; rintro e y2 ⟨z, rfl, hz, g2⟩; obtain ⟨r2, o2, l2, c2, r3, o3, l3, c3, rfl, hz2, hz3⟩ := hz; replace hz2 := hid' hz2; replace hz3 := hid' hz3; have hS2 : Hid (S8 w.heap.size (w.heap.size + 1) (.bool ar) (.slice ao al ac) (.bool aR) (.slice aO aL aC) (.bool br) (.slice bo bl bc) (.bool bR) (.slice bO bL bC) (w.heap.size + 1 + 1) W y2) := S8.call hS1.out hK g2; replace kd := kd.mono g2 kd.lt; have d0 := kd.c0; have d1 := kd.c1; have d2 := kd.c2; have d3 := kd.c3; have df := kd.f)
      | (go_at_call 44; refine (other_b _ m M _ N3.out).mono ?_; rintro e y1 ⟨z, rfl, hz, g1⟩; obtain ⟨r1, o1, l1, c1, rfl, hz1⟩ := hz.shape; clear hz; have hS1 : Hid (S8 w.heap.size (w.heap.size + 1) (.bool ar) (.slice ao al ac) (.bool aR) (.slice aO aL aC) (.bool br) (.slice bo bl bc) (.bool bR) (.slice bO bL bC) (w.heap.size + 1 + 1) W y1) := S8.call hS0.out hK g1; replace kd := kd.mono g1 kd.lt; replace N1 := hid' (N1.out.mono g1); replace N2 := hid' (N2.out.mono g1); replace N4 := hid' (N4.out.mono g1)))
  all_goals
    have hB := hid' (hF0.trans (hS2.out.2.2.2.2.2.2.2.2.mono (by omega)))
    go_wp2
    refine bodyPost_ret (v := .agg #[.bool r2, .slice o2 l2 c2, .bool r3, .slice o3 l3 c3]) (by simp [results, Try.results37, go_sem, d0, d1, d2, d3]) rfl ⟨_, rfl, ⟨r2, o2, l2, c2, r3, o3, l3, c3, rfl, ?_, ?_⟩, ?_⟩
    · exact (hz2.out.setQ kd _ _ _ _).le (by omega)
    · exact (hz3.out.setQ kd _ _ _ _).le (by omega)
    · exact (((hB.out.setCell (by simp only []; omega) _).setCell (by simp only []; omega) _).setCell (by simp only []; omega) _).setCell (by simp only []; omega) _
end
section
open Go.RowKit Go.Sort

/-- Four cells of two blocks. -/
abbrev S5 (A B : Nat) (x0 x1 y0 y1 : Value) (_R : Nat) (w : World) : Prop := w.cell? ⟨A, 0, none⟩ = some x0 ∧ w.cell? ⟨A, 1, none⟩ = some x1 ∧ w.cell? ⟨B, 0, none⟩ = some y0 ∧ w.cell? ⟨B, 1, none⟩ = some y1
theorem S5.call {A B : Nat} {x0 x1 y0 y1 : Value} {R : Nat} {w w' : World} (h : S5 A B x0 x1 y0 y1 R w) (g : Below w.heap.size w w') : S5 A B x0 x1 y0 y1 R w' :=
  ⟨below_cell h.1 g, below_cell h.2.1 g, below_cell h.2.2.1 g, below_cell h.2.2.2 g⟩
theorem S5.set {A B : Nat} {x0 x1 y0 y1 : Value} {R : Nat} {w : World} (h : S5 A B x0 x1 y0 y1 R w) {p : Addr} (hA : R ≠ A) (hB : R ≠ B) (hp : p.block = R) (z : Value) : S5 A B x0 x1 y0 y1 R (w.setCell p z) :=
  have f : ∀ a : Addr, R ≠ a.block → (w.setCell p z).cell? a = w.cell? a := fun a ha => World.cell?_setCell_far w p a z (by rw [hp]; exact ha)
  ⟨(f _ hA).trans h.1, (f _ hA).trans h.2.1, (f _ hB).trans h.2.2.1, (f _ hB).trans h.2.2.2⟩
def quoN (n d m e : Int) : Int := if d * m < 0 then -(n * e) else n * e
def quoD (d m : Int) : Int := if d * m < 0 then -(d * m) else d * m
theorem Q4.put {w : World} {b : Nat} {x0 x1 x2 x3 : Value} (h : Q4 w b x0 x1 x2 x3) {p : Addr} (hp : b ≠ p.block) (z : Value) : Q4 (w.setCell p z) b x0 x1 x2 x3 := h.other hp z
set_option maxRecDepth 20000 in
set_option maxHeartbeats 2000000 in
theorem rquo_rt (x y : Value) (n d m e' : Int) (L M : Nat) (w : World) (hx : Rt w x n d L) (hy : Rt w y m e' M) (hL : L + M ≤ 400) :
    Calls Try.prog 25 #[x, y] w fun e w' => ∃ z, e = .returned z ∧ Rt w' z (quoN n d m e') (quoD d m) (L + M) ∧ Below w.heap.size w w' := by
  obtain ⟨ar, ao, al, ac, aR, aO, aL, aC, rfl, ha1, ha2⟩ := hx
  obtain ⟨br, bo, bl, bc, bR, bO, bL, bC, rfl, hb1, hb2⟩ := hy
  have k0 : Q4 (((w.alloc (.cells #[.bool ar, .slice ao al ac, .bool aR, .slice aO aL aC] 53)).alloc (.cells #[.bool br, .slice bo bl bc, .bool bR, .slice bO bL bC] 53)).alloc (.cells #[.bool false, .slice none 0 0, .bool false, .slice none 0 0] 53)) w.heap.size (.bool ar) (.slice ao al ac) (.bool aR) (.slice aO aL aC) := (Q4.new w _ _ _ _).gr (((Gr.refl _).alloc _).alloc _)
  have k1 : Q4 (((w.alloc (.cells #[.bool ar, .slice ao al ac, .bool aR, .slice aO aL aC] 53)).alloc (.cells #[.bool br, .slice bo bl bc, .bool bR, .slice bO bL bC] 53)).alloc (.cells #[.bool false, .slice none 0 0, .bool false, .slice none 0 0] 53)) (w.heap.size + 1) (.bool br) (.slice bo bl bc) (.bool bR) (.slice bO bL bC) := by
    have := (Q4.new (w.alloc (.cells #[.bool ar, .slice ao al ac, .bool aR, .slice aO aL aC] 53)) (.bool br) (.slice bo bl bc) (.bool bR) (.slice bO bL bC)).gr ((Gr.refl _).alloc (.cells #[.bool false, .slice none 0 0, .bool false, .slice none 0 0] 53))
    simpa using this
  have k2 : Q4 (((w.alloc (.cells #[.bool ar, .slice ao al ac, .bool aR, .slice aO aL aC] 53)).alloc (.cells #[.bool br, .slice bo bl bc, .bool bR, .slice bO bL bC] 53)).alloc (.cells #[.bool false, .slice none 0 0, .bool false, .slice none 0 0] 53)) (w.heap.size + 1 + 1) (.bool false) (.slice none 0 0) (.bool false) (.slice none 0 0) := by
    have := Q4.new ((w.alloc (.cells #[.bool ar, .slice ao al ac, .bool aR, .slice aO aL aC] 53)).alloc (.cells #[.bool br, .slice bo bl bc, .bool bR, .slice bO bL bC] 53)) (.bool false) (.slice none 0 0) (.bool false) (.slice none 0 0)
    simpa using this
  have hF : Below w.heap.size w (((w.alloc (.cells #[.bool ar, .slice ao al ac, .bool aR, .slice aO aL aC] 53)).alloc (.cells #[.bool br, .slice bo bl bc, .bool bR, .slice bO bL bC] 53)).alloc (.cells #[.bool false, .slice none 0 0, .bool false, .slice none 0 0] 53)) := ((((Gr.refl _).alloc _).alloc _).alloc _).below
  have T1 := times_num _ _ n e' L M (((w.alloc (.cells #[.bool ar, .slice ao al ac, .bool aR, .slice aO aL aC] 53)).alloc (.cells #[.bool br, .slice bo bl bc, .bool bR, .slice bO bL bC] 53)).alloc (.cells #[.bool false, .slice none 0 0, .bool false, .slice none 0 0] 53)) (ha1.mono hF) (hb2.mono hF) (by omega) (by omega)
  have N2 := hid' (ha2.mono hF)
  have N3 := hid' (hb1.mono hF)
  clear ha1 ha2 hb1 hb2
  go_enter Try.func25, Try.ntmps25
  go_wp2_with fail
  generalize (((w.alloc (.cells #[.bool ar, .slice ao al ac, .bool aR, .slice aO aL aC] 53)).alloc (.cells #[.bool br, .slice bo bl bc, .bool bR, .slice bO bL bC] 53)).alloc (.cells #[.bool false, .slice none 0 0, .bool false, .slice none 0 0] 53)) = W at *
  refine T1.mono ?_
  clear T1
  rintro e y1 ⟨z, rfl, hz, g1⟩
  obtain ⟨r1, o1, l1, c1, rfl, hz1⟩ := hz.shape
  clear hz
  have a1 : Gr y1 (y1.alloc (.cells #[.bool r1, .slice o1 l1 c1] 51)) := (Gr.refl _).alloc _
  have b1 := g1.trans (a1.below.mono g1.size)
  replace k0 := k0.mono b1 k0.lt
  replace k1 := k1.mono b1 k1.lt
  replace k2 := k2.mono b1 k2.lt
  replace N2 := hid' (N2.out.mono b1)
  replace N3 := hid' (N3.out.mono b1)
  replace hz1 := hid' (hz1.out.gr a1)
  replace hF := hF.trans (b1.mono hF.size)
  have v5 : Wh (y1.alloc (.cells #[.bool r1, .slice o1 l1 c1] 51)) y1.heap.size (.bool r1) (.slice o1 l1 c1) := Wh.new y1 _ _
  have T2 := times_num _ _ d m L M (y1.alloc (.cells #[.bool r1, .slice o1 l1 c1] 51)) N2.out N3.out (by omega) (by omega)
  have x2 := k0.c2
  have x3 := k0.c3
  have x4 := k1.c0
  have x5 := k1.c1
  clear b1 a1 g1 N2 N3
  go_wp2_with fail
  generalize y1.alloc (.cells #[.bool r1, .slice o1 l1 c1] 51) = Y1 at *
  generalize y1.heap.size = X5 at *
  refine T2.mono ?_
  clear T2 x2 x3 x4 x5
  rintro e y2 ⟨z, rfl, hz, g2⟩
  obtain ⟨o2, c2, l2, rfl, hr2, hn2, hv2, hl2⟩ := hz
  have hz2 : Hid (Nm y2 (.agg #[.bool (decide (d * m < 0)), .slice o2 l2.length c2]) (d * m) (L + M)) := hid' ⟨o2, c2, l2, rfl, hr2, hn2, hv2, hl2⟩
  clear hr2 hn2 hv2 hl2
  generalize hBd : decide (d * m < 0) = B at *
  have a2 : Gr y2 (y2.alloc (.cells #[.bool (B), .slice o2 l2.length c2] 51)) := (Gr.refl _).alloc _
  have b2 := g2.trans (a2.below.mono g2.size)
  replace k2 := k2.mono b2 k2.lt
  replace v5 := v5.mono b2 v5.lt
  replace hz1 := hid' (hz1.out.mono b2)
  replace hz2 := hid' (hz2.out.gr a2)
  replace hF := hF.trans (b2.mono hF.size)
  have v6 : Wh (y2.alloc (.cells #[.bool (B), .slice o2 l2.length c2] 51)) y2.heap.size (.bool (B)) (.slice o2 l2.length c2) := Wh.new y2 _ _
  have EN : Hid (quoN n d m e' = if d * m < 0 then -(n * e') else n * e') := rfl
  have ED : Hid (quoD d m = if d * m < 0 then -(d * m) else d * m) := rfl
  clear k0 k1 b2 a2 g2
  have u0 := v5.c0
  have u1 := v5.c1
  have u2 := v6.c0
  have u3 := v6.c1
  have d0 := k2.c0
  have d1 := k2.c1
  have d2 := k2.c2
  have d3 := k2.c3
  have df := k2.f
  cases B with
  | true =>
    have hneg : d * m < 0 := by simpa using hBd
    rw [if_pos hneg] at EN ED
    clear hneg hBd
    generalize n * e' = NE at *
    generalize d * m = DM at *
    go_upto_region 4 with fail
    generalize y2.alloc (.cells #[.bool true, .slice o2 l2.length c2] 51) = Y2 at *
    generalize y2.heap.size = X6 at *
    have M1 := hid' (hz1.out.mono (Below.refl _ _).drew)
    have M2 := hid' (hz2.out.mono (Below.refl _ _).drew)
    have lt5 := v5.lt
    have lt6 := v6.lt
    have lt2 := k2.lt
    have n5 : w.heap.size + 1 + 1 ≠ X5 := fun q => by have a := v5; have b := k2; rw [← q] at a; unfold Wh at a; unfold Q4 at b; rw [a] at b; simp at b
    have n6 : w.heap.size + 1 + 1 ≠ X6 := fun q => by have a := v6; have b := k2; rw [← q] at a; unfold Wh at a; unfold Q4 at b; rw [a] at b; simp at b
    have hS0 : Hid (S5 X5 X6 (.bool r1) (.slice o1 l1 c1) (.bool true) (.slice o2 l2.length c2) (w.heap.size + 1 + 1) Y2.drew) := ⟨v5.c0, v5.c1, v6.c0, v6.c1⟩
    have kd : Q4 Y2.drew (w.heap.size + 1 + 1) (.bool false) (.slice none 0 0) (.bool false) (.slice none 0 0) := k2
    have hFd : Below w.heap.size w Y2.drew := hF.drew
    clear hz1 hz2 u0 u1 u2 u3 d0 d1 d2 d3 df v5 v6 k2
    go_region_held3 (S5 X5 X6 (.bool r1) (.slice o1 l1 c1) (.bool true) (.slice o2 l2.length c2) (w.heap.size + 1 + 1))
      (repeat (first | with_reducible exact hS2.out | with_reducible exact hS1.out | with_reducible exact hS0.out | (with_reducible refine S5.set ?_ n5 n6 rfl _)))
      (first
        | (have _n := hw1; go_at_call 44; refine (other_b _ DM (L + M) _ M2.out).mono ?_; rintro e y4 ⟨z, rfl, hz, g4⟩; obtain ⟨r4, o4, l4, c4, rfl, hw2⟩ := hz.shape; clear hz; replace hw1 := hid' (hw1.out.mono g4); have hS2 : Hid (S5 X5 X6 (.bool r1) (.slice o1 l1 c1) (.bool true) (.slice o2 l2.length c2) (w.heap.size + 1 + 1) y4) := S5.call hS1.out g4; replace kd := kd.mono g4 kd.lt; have d0 := kd.c0; have d1 := kd.c1; have d2 := kd.c2; have d3 := kd.c3; have df := kd.f; replace hFd := hFd.trans (g4.mono hFd.size))
        | (go_at_call 44; refine (other_b _ NE (L + M) _ M1.out).mono ?_; rintro e y3 ⟨z, rfl, hz, g3⟩; obtain ⟨r3, o3, l3, c3, rfl, hw1⟩ := hz.shape; clear hz; replace M2 := hid' (M2.out.mono g3); have hS1 : Hid (S5 X5 X6 (.bool r1) (.slice o1 l1 c1) (.bool true) (.slice o2 l2.length c2) (w.heap.size + 1 + 1) y3) := S5.call hS0.out g3; replace kd := kd.mono g3 kd.lt; replace hFd := hFd.trans (g3.mono hFd.size)))
    all_goals
      go_wp2
      refine bodyPost_ret (v := .agg #[.bool r3, .slice o3 l3 c3, .bool r4, .slice o4 l4 c4]) (by simp [results, Try.results25, go_sem, d0, d1, d2, d3]) rfl ⟨_, rfl, ⟨r3, o3, l3, c3, r4, o4, l4, c4, rfl, ?_, ?_⟩, ?_⟩
      · rw [EN.out]; exact hw1.out.setQ kd _ _ _ _
      · rw [ED.out]; exact hw2.out.setQ kd _ _ _ _
      · exact (((hFd.setCell (by simp only []; omega) _).setCell (by simp only []; omega) _).setCell (by simp only []; omega) _).setCell (by simp only []; omega) _
  | false =>
    have hneg : ¬ d * m < 0 := by simpa using hBd
    rw [if_neg hneg] at EN ED
    clear hneg hBd
    generalize n * e' = NE at *
    generalize d * m = DM at *
    go_wp2
    refine bodyPost_ret (v := .agg #[.bool r1, .slice o1 l1 c1, .bool false, .slice o2 l2.length c2]) (by simp [results, Try.results25, go_sem, d0, d1, d2, d3]) rfl ⟨_, rfl, ⟨r1, o1, l1, c1, false, o2, l2.length, c2, rfl, ?_, ?_⟩, ?_⟩
    · rw [EN.out]; exact hz1.out.setQ k2 _ _ _ _
    · rw [ED.out]; exact hz2.out.setQ k2 _ _ _ _
    · exact (((hF.setCell (by simp only []; omega) _).setCell (by simp only []; omega) _).setCell (by simp only []; omega) _).setCell (by simp only []; omega) _
end
end Go.Proofs.Ytagabccaipfjeaa
