/- cell's Cover: the iterator over the cells of a box. -/
import Derived.Test.YtmoddfikhipagaaCn
set_option linter.unusedSimpArgs false
set_option linter.unusedVariables false
namespace Go.Proofs.Ytmoddfikhipagaa
open Go.RowKit Go.Sort Go.Shelf
attribute [local go_sem] Oper.semAt_some wide_fn
attribute [local simp] wide_fn

def rowC (k : Nat) (h : C2) : List C2 := runL h (1, 0) (k + 1)
def kxOf (a c s : Int) : Nat := (c / s - a / s).toNat
def covL (a b c d s : Int) : List C2 := if szB s && rtB a b c d then (runL (a / s, b / s) (0, 1) (kxOf b d s + 1)).flatMap (rowC (kxOf a c s)) else []
theorem row_runs {p : C2} {z : Int} (hx : p.1 ≤ z) (h1 : in32 p.1 ∧ in32 p.2) (h2 : in32 z) : Runs p (z, p.2) (1, 0) (z - p.1).toNat := by
  refine ⟨?_, ?_, ?_⟩
  · apply Prod.ext
    · simp [rAt]; omega
    · simp [rAt]
  · intro i hi e
    have := congrArg Prod.fst e
    simp [rAt] at this
    omega
  · intro i hi
    unfold in32 at *
    simp only [rAt, Int.mul_zero, Int.add_zero, Int.mul_one]
    omega
theorem run_of {f s : C2} {k : Nat} {pre : List C2} {x : C2} (h : pre ++ [x] <+: runL f s (k + 1)) : ∃ i, i ≤ k ∧ x = rAt f s i := by
  have hm : x ∈ runL f s (k + 1) := by
    obtain ⟨t, ht⟩ := h
    rw [← ht]; simp
  unfold runL at hm
  obtain ⟨i, hi, e⟩ := List.mem_map.1 hm
  exact ⟨i, by rw [List.mem_range] at hi; omega, e.symm⟩
def InvV (W : World) (yv : Value) (bs bb bY : Nat) (ia ib ic id s X Y Z U : Int) (d : Nat → Prop) (a : Act) (w : World) : Prop :=
  ∃ u4 u5 u16 u17 u18 u19 u20 u21 u22 u23 : Value, a = { tmps := (yv :: .pointer (some ⟨bs, 0, none⟩) :: .pointer (some ⟨bb, 0, none⟩) :: .pointer (some ⟨bY, 0, none⟩) :: u4 :: u5 :: undef :: undef :: .int .i64 s :: .bool true :: .bool false :: .bool false :: Value.agg #[.int .i32 ia, .int .i32 ib, .int .i32 ic, .int .i32 id] :: .bool true :: .bool false :: .bool false :: u16 :: u17 :: u18 :: u19 :: u20 :: u21 :: u22 :: u23 :: undef :: undef :: undef :: undef :: undef :: undef :: undef :: undef :: undef :: undef :: undef :: undef :: undef :: undef :: undef :: undef :: undef :: undef :: undef :: undef :: undef :: undef :: []).toArray, defers := [] } ∧ Gr W w
  ∧ Hid (d 0 → u16 = .pointer (some ⟨bb, 0, none⟩))
  ∧ Hid (d 1 → u17 = pt ia ib)
  ∧ Hid (d 2 → u18 = .int .i64 s)
  ∧ Hid (d 3 → u19 = pt X Y)
  ∧ Hid (d 4 → u20 = .pointer (some ⟨bb, 2, none⟩))
  ∧ Hid (d 5 → u21 = pt ic id)
  ∧ Hid (d 6 → u22 = .int .i64 s)
  ∧ Hid (d 7 → u23 = pt Z U)
  ∧ Hid (d 8 → ∃ (B : Nat) (x0 x1 : Value), u4 = .pointer (some ⟨B, 0, none⟩) ∧ W.heap.size ≤ B ∧ Bk w B 26 [x0, x1] ∧ (d 10 → x0 = Value.int .i32 X ∧ x1 = Value.int .i32 Y))
  ∧ Hid (d 9 → ∃ (B : Nat) (x0 x1 : Value), u5 = .pointer (some ⟨B, 0, none⟩) ∧ W.heap.size ≤ B ∧ Bk w B 26 [x0, x1] ∧ (d 11 → x0 = Value.int .i32 Z ∧ x1 = Value.int .i32 U))
  ∧ Hid (d 8 → d 9 → u4 ≠ u5)

set_option maxRecDepth 100000 in
set_option maxHeartbeats 8000000 in
theorem cover1_in (n : Nat) (hn : 12 ≤ n) (l bs bb : Nat) (ia ib ic id s : Int) (kx ky : Nat) (J : (Nat → Prop) → List C2 → World → Prop) (Jx : List C2 → World → Prop) (ps : Nat → Prop) (W : World) (L : List C2)
    (ks : Bk W bs 2 [.int .i64 s]) (kb : Bk W bb 25 [.int .i32 ia, .int .i32 ib, .int .i32 ic, .int .i32 id])
    (hps : ∀ b, ps b → b < W.heap.size) (hJ : Con W.heap.size J) (hJx : OwnFrom W.heap.size Jx)
    (S1 : Hid (∀ w, Calls Try.prog 30 #[.int .i64 s] w fun e w' => e = .returned (.bool true) ∧ w' = w)) (S2 : Hid (∀ w, Calls Try.prog 34 #[bx ia ib ic id] w fun e w' => e = .returned (.bool true) ∧ Gr w w'))
    (H1 : Hid (∀ w, Calls Try.prog 31 #[pt ia ib, .int .i64 s] w fun e w' => e = .returned (pt (ia / s) (ib / s)) ∧ Gr w w')) (H2 : Hid (∀ w, Calls Try.prog 31 #[pt ic id, .int .i64 s] w fun e w' => e = .returned (pt (ic / s) (id / s)) ∧ Gr w w'))
    (hR1 : Runs (ia / s, ib / s) (ia / s, id / s) (0, 1) ky) (hR2 : ∀ i, i ≤ ky → Runs (rAt (ia / s, ib / s) (0, 1) i) (ic / s, (rAt (ia / s, ib / s) (0, 1) i).2) (1, 0) kx)
    (eL : L = (runL (ia / s, ib / s) (0, 1) (ky + 1)).flatMap (rowC kx))
    (hY : ∀ p' pre x W1, (∀ b, ps b → p' b) → (∀ b, p' b → b < W1.heap.size) → J p' pre W1 → W.heap.size ≤ W1.heap.size → pre ++ [x] <+: L → YieldAt Fence.wide 0 Try.prog l (cEnc x) W1 (RoundEnds W.heap.size J Jx p' (pre ++ [x]) W1))
    (h0 : J ps [] W) :
    CallsIn Fence.wide n Try.prog 36 #[.func (.yield l) #[] #[], .pointer (some ⟨bs, 0, none⟩), .pointer (some ⟨bb, 0, none⟩)] W fun e W' => (∃ v, e = .returned v) ∧
      ((∃ q', J q' L W' ∧ ∀ b, ps b → q' b) ∨ (∃ pre, pre <+: L ∧ Jx pre W')) := by
  refine callsIn_of_wp_marks Try.func36 rfl trivial ?_ rfl
  simp only [Try.ntmps36, List.size_toArray, List.length_cons, List.length_nil, Nat.reduceAdd, Nat.reduceSub, Array.replicate_succ, Array.replicate_zero, List.push_toArray, List.append_toArray, List.nil_append, List.cons_append]
  have h1n : 1 ≤ n := by omega
  have HL := hid0 (And.intro hR1 (And.intro hR2 eL))
  clear hR1 hR2 eL
  have b4 := Bk.new W 62 [.func (.yield l) #[] #[]]
  have g4 : Gr W (W.alloc (.cells #[.func (.yield l) #[] #[]] 62)) := (Gr.refl _).alloc _
  gi_upto_region 1 with fail
  generalize W.alloc (.cells #[.func (.yield l) #[] #[]] 62) = W1 at *
  have s0 := (ks.gr g4).one
  obtain ⟨p0, p1, p2, p3⟩ := (kb.gr g4).four
  gi_upto_region 2 with (first
    | (refine (callsIn_wide.2 (S1.out _)).mono ?_; rintro e w1 ⟨rfl, rfl⟩; clear S1)
    | (refine (callsIn_wide.2 (S2.out _)).mono ?_; rintro e w3 ⟨rfl, g2⟩; clear S2))
  have gA : Gr W w3 := g4.trans g2
  have bY := b4.gr g2
  have ks3 := ks.gr gA
  have kb3 := kb.gr gA
  clear s0 p0 p1 p2 p3 b4 g4 g2
  refine region_inv (by kernel_rfl) (by kernel_rfl) (InvV w3 (.func (.yield l) #[] #[]) bs bb W.heap.size ia ib ic id s (ia / s) (ib / s) (ic / s) (id / s)) ?h0 ?hstep ?hend
  case h0 =>
    exact ⟨_, _, _, _, _, _, _, _, _, _, rfl, (Gr.refl _).drew, fun h => h.elim, fun h => h.elim, fun h => h.elim, fun h => h.elim, fun h => h.elim, fun h => h.elim, fun h => h.elim, fun h => h.elim, fun h => h.elim, fun h => h.elim, fun h => h.elim⟩
  case hstep =>
    clear hY h0 hJ hJx hps HL gA bY ks kb
    intro d a w i o ho hnd D hdn hI
    have hi := (List.getElem?_eq_some_iff.1 ho).1
    simp only [List.length_cons, List.length_nil] at hi
    have : i = 0 ∨ i = 1 ∨ i = 2 ∨ i = 3 ∨ i = 4 ∨ i = 5 ∨ i = 6 ∨ i = 7 ∨ i = 8 ∨ i = 9 ∨ i = 10 ∨ i = 11 := by omega
    rcases this with rfl | rfl | rfl | rfl | rfl | rfl | rfl | rfl | rfl | rfl | rfl | rfl
    · -- 0
      cases ho
      obtain ⟨u4, u5, u16, u17, u18, u19, u20, u21, u22, u23, rfl, hG, f0, f1, f2, f3, f4, f5, f6, f7, g8, g9, n8_9⟩ := hI
      gi_wp2
      exact ⟨_, _, _, _, _, _, _, _, _, _, rfl, hG, (fun _ => rfl), (fun h => f1.out (or_ne h (by decide))), (fun h => f2.out (or_ne h (by decide))), (fun h => f3.out (or_ne h (by decide))), (fun h => f4.out (or_ne h (by decide))), (fun h => f5.out (or_ne h (by decide))), (fun h => f6.out (or_ne h (by decide))), (fun h => f7.out (or_ne h (by decide))), (fun h => by obtain ⟨B, x0, x1, q1, q2, q3, q4⟩ := g8.out (or_ne h (by decide)); exact ⟨B, x0, x1, q1, q2, q3, fun h => q4 (or_ne h (by decide))⟩), (fun h => by obtain ⟨B, x0, x1, q1, q2, q3, q4⟩ := g9.out (or_ne h (by decide)); exact ⟨B, x0, x1, q1, q2, q3, fun h => q4 (or_ne h (by decide))⟩), (fun h h' => n8_9.out (or_ne h (by decide)) (or_ne h' (by decide)))⟩
    · -- 1
      cases ho
      obtain ⟨u4, u5, u16, u17, u18, u19, u20, u21, u22, u23, rfl, hG, f0, f1, f2, f3, f4, f5, f6, f7, g8, g9, n8_9⟩ := hI
      have e0 := f0.out (D 0 (by kernel_rfl))
      subst e0
      obtain ⟨p0, p1, p2, p3⟩ := (kb3.gr hG).four
      gi_wp2
      exact ⟨_, _, _, _, _, _, _, _, _, _, rfl, hG, (fun _ => rfl), (fun _ => rfl), (fun h => f2.out (or_ne h (by decide))), (fun h => f3.out (or_ne h (by decide))), (fun h => f4.out (or_ne h (by decide))), (fun h => f5.out (or_ne h (by decide))), (fun h => f6.out (or_ne h (by decide))), (fun h => f7.out (or_ne h (by decide))), (fun h => by obtain ⟨B, x0, x1, q1, q2, q3, q4⟩ := g8.out (or_ne h (by decide)); exact ⟨B, x0, x1, q1, q2, q3, fun h => q4 (or_ne h (by decide))⟩), (fun h => by obtain ⟨B, x0, x1, q1, q2, q3, q4⟩ := g9.out (or_ne h (by decide)); exact ⟨B, x0, x1, q1, q2, q3, fun h => q4 (or_ne h (by decide))⟩), (fun h h' => n8_9.out (or_ne h (by decide)) (or_ne h' (by decide)))⟩
    · -- 2
      cases ho
      obtain ⟨u4, u5, u16, u17, u18, u19, u20, u21, u22, u23, rfl, hG, f0, f1, f2, f3, f4, f5, f6, f7, g8, g9, n8_9⟩ := hI
      have s0 := (ks3.gr hG).one
      gi_wp2
      exact ⟨_, _, _, _, _, _, _, _, _, _, rfl, hG, (fun h => f0.out (or_ne h (by decide))), (fun h => f1.out (or_ne h (by decide))), (fun _ => rfl), (fun h => f3.out (or_ne h (by decide))), (fun h => f4.out (or_ne h (by decide))), (fun h => f5.out (or_ne h (by decide))), (fun h => f6.out (or_ne h (by decide))), (fun h => f7.out (or_ne h (by decide))), (fun h => by obtain ⟨B, x0, x1, q1, q2, q3, q4⟩ := g8.out (or_ne h (by decide)); exact ⟨B, x0, x1, q1, q2, q3, fun h => q4 (or_ne h (by decide))⟩), (fun h => by obtain ⟨B, x0, x1, q1, q2, q3, q4⟩ := g9.out (or_ne h (by decide)); exact ⟨B, x0, x1, q1, q2, q3, fun h => q4 (or_ne h (by decide))⟩), (fun h h' => n8_9.out (or_ne h (by decide)) (or_ne h' (by decide)))⟩
    · -- 3
      cases ho
      obtain ⟨u4, u5, u16, u17, u18, u19, u20, u21, u22, u23, rfl, hG, f0, f1, f2, f3, f4, f5, f6, f7, g8, g9, n8_9⟩ := hI
      have e1 := f1.out (D 1 (by kernel_rfl))
      subst e1
      have e2 := f2.out (D 2 (by kernel_rfl))
      subst e2
      gi_wp2_with (refine (callsIn_wide.2 (H1.out _)).mono ?_; rintro e w1 ⟨rfl, h1⟩)
      have hG' := hG.trans h1
      exact ⟨_, _, _, _, _, _, _, _, _, _, rfl, hG', (fun h => f0.out (or_ne h (by decide))), (fun _ => rfl), (fun _ => rfl), (fun _ => rfl), (fun h => f4.out (or_ne h (by decide))), (fun h => f5.out (or_ne h (by decide))), (fun h => f6.out (or_ne h (by decide))), (fun h => f7.out (or_ne h (by decide))), (fun h => by obtain ⟨B, x0, x1, q1, q2, q3, q4⟩ := g8.out (or_ne h (by decide)); exact ⟨B, x0, x1, q1, q2, q3.gr h1, fun h => q4 (or_ne h (by decide))⟩), (fun h => by obtain ⟨B, x0, x1, q1, q2, q3, q4⟩ := g9.out (or_ne h (by decide)); exact ⟨B, x0, x1, q1, q2, q3.gr h1, fun h => q4 (or_ne h (by decide))⟩), (fun h h' => n8_9.out (or_ne h (by decide)) (or_ne h' (by decide)))⟩
    · -- 4
      cases ho
      obtain ⟨u4, u5, u16, u17, u18, u19, u20, u21, u22, u23, rfl, hG, f0, f1, f2, f3, f4, f5, f6, f7, g8, g9, n8_9⟩ := hI
      gi_wp2
      exact ⟨_, _, _, _, _, _, _, _, _, _, rfl, hG, (fun h => f0.out (or_ne h (by decide))), (fun h => f1.out (or_ne h (by decide))), (fun h => f2.out (or_ne h (by decide))), (fun h => f3.out (or_ne h (by decide))), (fun _ => rfl), (fun h => f5.out (or_ne h (by decide))), (fun h => f6.out (or_ne h (by decide))), (fun h => f7.out (or_ne h (by decide))), (fun h => by obtain ⟨B, x0, x1, q1, q2, q3, q4⟩ := g8.out (or_ne h (by decide)); exact ⟨B, x0, x1, q1, q2, q3, fun h => q4 (or_ne h (by decide))⟩), (fun h => by obtain ⟨B, x0, x1, q1, q2, q3, q4⟩ := g9.out (or_ne h (by decide)); exact ⟨B, x0, x1, q1, q2, q3, fun h => q4 (or_ne h (by decide))⟩), (fun h h' => n8_9.out (or_ne h (by decide)) (or_ne h' (by decide)))⟩
    · -- 5
      cases ho
      obtain ⟨u4, u5, u16, u17, u18, u19, u20, u21, u22, u23, rfl, hG, f0, f1, f2, f3, f4, f5, f6, f7, g8, g9, n8_9⟩ := hI
      have e4 := f4.out (D 4 (by kernel_rfl))
      subst e4
      obtain ⟨p0, p1, p2, p3⟩ := (kb3.gr hG).four
      gi_wp2
      exact ⟨_, _, _, _, _, _, _, _, _, _, rfl, hG, (fun h => f0.out (or_ne h (by decide))), (fun h => f1.out (or_ne h (by decide))), (fun h => f2.out (or_ne h (by decide))), (fun h => f3.out (or_ne h (by decide))), (fun _ => rfl), (fun _ => rfl), (fun h => f6.out (or_ne h (by decide))), (fun h => f7.out (or_ne h (by decide))), (fun h => by obtain ⟨B, x0, x1, q1, q2, q3, q4⟩ := g8.out (or_ne h (by decide)); exact ⟨B, x0, x1, q1, q2, q3, fun h => q4 (or_ne h (by decide))⟩), (fun h => by obtain ⟨B, x0, x1, q1, q2, q3, q4⟩ := g9.out (or_ne h (by decide)); exact ⟨B, x0, x1, q1, q2, q3, fun h => q4 (or_ne h (by decide))⟩), (fun h h' => n8_9.out (or_ne h (by decide)) (or_ne h' (by decide)))⟩
    · -- 6
      cases ho
      obtain ⟨u4, u5, u16, u17, u18, u19, u20, u21, u22, u23, rfl, hG, f0, f1, f2, f3, f4, f5, f6, f7, g8, g9, n8_9⟩ := hI
      have s0 := (ks3.gr hG).one
      gi_wp2
      exact ⟨_, _, _, _, _, _, _, _, _, _, rfl, hG, (fun h => f0.out (or_ne h (by decide))), (fun h => f1.out (or_ne h (by decide))), (fun h => f2.out (or_ne h (by decide))), (fun h => f3.out (or_ne h (by decide))), (fun h => f4.out (or_ne h (by decide))), (fun h => f5.out (or_ne h (by decide))), (fun _ => rfl), (fun h => f7.out (or_ne h (by decide))), (fun h => by obtain ⟨B, x0, x1, q1, q2, q3, q4⟩ := g8.out (or_ne h (by decide)); exact ⟨B, x0, x1, q1, q2, q3, fun h => q4 (or_ne h (by decide))⟩), (fun h => by obtain ⟨B, x0, x1, q1, q2, q3, q4⟩ := g9.out (or_ne h (by decide)); exact ⟨B, x0, x1, q1, q2, q3, fun h => q4 (or_ne h (by decide))⟩), (fun h h' => n8_9.out (or_ne h (by decide)) (or_ne h' (by decide)))⟩
    · -- 7
      cases ho
      obtain ⟨u4, u5, u16, u17, u18, u19, u20, u21, u22, u23, rfl, hG, f0, f1, f2, f3, f4, f5, f6, f7, g8, g9, n8_9⟩ := hI
      have e5 := f5.out (D 5 (by kernel_rfl))
      subst e5
      have e6 := f6.out (D 6 (by kernel_rfl))
      subst e6
      gi_wp2_with (refine (callsIn_wide.2 (H2.out _)).mono ?_; rintro e w1 ⟨rfl, h1⟩)
      have hG' := hG.trans h1
      exact ⟨_, _, _, _, _, _, _, _, _, _, rfl, hG', (fun h => f0.out (or_ne h (by decide))), (fun h => f1.out (or_ne h (by decide))), (fun h => f2.out (or_ne h (by decide))), (fun h => f3.out (or_ne h (by decide))), (fun h => f4.out (or_ne h (by decide))), (fun _ => rfl), (fun _ => rfl), (fun _ => rfl), (fun h => by obtain ⟨B, x0, x1, q1, q2, q3, q4⟩ := g8.out (or_ne h (by decide)); exact ⟨B, x0, x1, q1, q2, q3.gr h1, fun h => q4 (or_ne h (by decide))⟩), (fun h => by obtain ⟨B, x0, x1, q1, q2, q3, q4⟩ := g9.out (or_ne h (by decide)); exact ⟨B, x0, x1, q1, q2, q3.gr h1, fun h => q4 (or_ne h (by decide))⟩), (fun h h' => n8_9.out (or_ne h (by decide)) (or_ne h' (by decide)))⟩
    · -- 8
      cases ho
      obtain ⟨u4, u5, u16, u17, u18, u19, u20, u21, u22, u23, rfl, hG, f0, f1, f2, f3, f4, f5, f6, f7, g8, g9, n8_9⟩ := hI
      gi_wp2
      have h1 := (Gr.refl w).alloc (.cells #[Value.int .i32 0, Value.int .i32 0] 26)
      have hG' := hG.trans h1
      exact ⟨_, _, _, _, _, _, _, _, _, _, rfl, hG', (fun h => f0.out (or_ne h (by decide))), (fun h => f1.out (or_ne h (by decide))), (fun h => f2.out (or_ne h (by decide))), (fun h => f3.out (or_ne h (by decide))), (fun h => f4.out (or_ne h (by decide))), (fun h => f5.out (or_ne h (by decide))), (fun h => f6.out (or_ne h (by decide))), (fun h => f7.out (or_ne h (by decide))), (fun _ => ⟨w.heap.size, _, _, rfl, hG.size, Bk.new w 26 _, fun h => absurd (hdn 10 _ rfl (or_ne h (by decide)) 8 (by kernel_rfl)) hnd⟩), (fun h => by obtain ⟨B, x0, x1, q1, q2, q3, q4⟩ := g9.out (or_ne h (by decide)); exact ⟨B, x0, x1, q1, q2, q3.gr h1, fun h => q4 (or_ne h (by decide))⟩), (fun _ h => by obtain ⟨B, x0, x1, q1, q2, q3, q4⟩ := g9.out (or_ne h (by decide)); rw [q1]; intro e; have := q3.lt; cases e; omega)⟩
    · -- 9
      cases ho
      obtain ⟨u4, u5, u16, u17, u18, u19, u20, u21, u22, u23, rfl, hG, f0, f1, f2, f3, f4, f5, f6, f7, g8, g9, n8_9⟩ := hI
      gi_wp2
      have h1 := (Gr.refl w).alloc (.cells #[Value.int .i32 0, Value.int .i32 0] 26)
      have hG' := hG.trans h1
      exact ⟨_, _, _, _, _, _, _, _, _, _, rfl, hG', (fun h => f0.out (or_ne h (by decide))), (fun h => f1.out (or_ne h (by decide))), (fun h => f2.out (or_ne h (by decide))), (fun h => f3.out (or_ne h (by decide))), (fun h => f4.out (or_ne h (by decide))), (fun h => f5.out (or_ne h (by decide))), (fun h => f6.out (or_ne h (by decide))), (fun h => f7.out (or_ne h (by decide))), (fun h => by obtain ⟨B, x0, x1, q1, q2, q3, q4⟩ := g8.out (or_ne h (by decide)); exact ⟨B, x0, x1, q1, q2, q3.gr h1, fun h => q4 (or_ne h (by decide))⟩), (fun _ => ⟨w.heap.size, _, _, rfl, hG.size, Bk.new w 26 _, fun h => absurd (hdn 11 _ rfl (or_ne h (by decide)) 9 (by kernel_rfl)) hnd⟩), (fun h _ => by obtain ⟨B, x0, x1, q1, q2, q3, q4⟩ := g8.out (or_ne h (by decide)); rw [q1]; intro e; have := q3.lt; cases e; omega)⟩
    · -- 10
      cases ho
      obtain ⟨u4, u5, u16, u17, u18, u19, u20, u21, u22, u23, rfl, hG, f0, f1, f2, f3, f4, f5, f6, f7, g8, g9, n8_9⟩ := hI
      have e3 := f3.out (D 3 (by kernel_rfl))
      subst e3
      obtain ⟨B8, x8_0, x8_1, e8, hB8, k8, c8⟩ := g8.out (D 8 (by kernel_rfl))
      subst e8
      have HC8 := hid0 c8
      clear c8
      obtain ⟨B9, x9_0, x9_1, e9, hB9, k9, c9⟩ := g9.out (D 9 (by kernel_rfl))
      subst e9
      have HC9 := hid0 c9
      clear c9
      have z := fun j => k8.frozen j
      have z0 := z 0
      have y0 := k8.at 0
      have z1 := z 1
      have y1 := k8.at 1
      simp only [List.getElem?_cons_zero, List.getElem?_cons_succ] at y0 y1
      clear z
      gi_wp2
      have hG' := ((hG.setCell (p := ⟨B8, 0, none⟩) hB8 (Value.int .i32 (ia / s))).setCell (p := ⟨B8, 1, none⟩) hB8 (Value.int .i32 (ib / s)))
      have hne9 : B9 ≠ B8 := fun e => n8_9.out (D 8 (by kernel_rfl)) (D 9 (by kernel_rfl)) (by rw [e])
      exact ⟨_, _, _, _, _, _, _, _, _, _, rfl, hG', (fun h => f0.out (or_ne h (by decide))), (fun h => f1.out (or_ne h (by decide))), (fun h => f2.out (or_ne h (by decide))), (fun _ => rfl), (fun h => f4.out (or_ne h (by decide))), (fun h => f5.out (or_ne h (by decide))), (fun h => f6.out (or_ne h (by decide))), (fun h => f7.out (or_ne h (by decide))), (fun _ => ⟨B8, _, _, rfl, hB8, ((k8.set 0 _).set 1 _), fun _ => ⟨rfl, rfl⟩⟩), (fun _ => ⟨B9, _, _, rfl, hB9, ((k9.other (a := ⟨B8, 0, none⟩) hne9 _).other (a := ⟨B8, 1, none⟩) hne9 _), fun h => HC9.out (or_ne h (by decide))⟩), (fun h h' => n8_9.out (or_ne h (by decide)) (or_ne h' (by decide)))⟩
    · -- 11
      cases ho
      obtain ⟨u4, u5, u16, u17, u18, u19, u20, u21, u22, u23, rfl, hG, f0, f1, f2, f3, f4, f5, f6, f7, g8, g9, n8_9⟩ := hI
      have e7 := f7.out (D 7 (by kernel_rfl))
      subst e7
      obtain ⟨B8, x8_0, x8_1, e8, hB8, k8, c8⟩ := g8.out (D 8 (by kernel_rfl))
      subst e8
      have HC8 := hid0 c8
      clear c8
      obtain ⟨B9, x9_0, x9_1, e9, hB9, k9, c9⟩ := g9.out (D 9 (by kernel_rfl))
      subst e9
      have HC9 := hid0 c9
      clear c9
      have z := fun j => k9.frozen j
      have z0 := z 0
      have y0 := k9.at 0
      have z1 := z 1
      have y1 := k9.at 1
      simp only [List.getElem?_cons_zero, List.getElem?_cons_succ] at y0 y1
      clear z
      gi_wp2
      have hG' := ((hG.setCell (p := ⟨B9, 0, none⟩) hB9 (Value.int .i32 (ic / s))).setCell (p := ⟨B9, 1, none⟩) hB9 (Value.int .i32 (id / s)))
      have hne8 : B8 ≠ B9 := fun e => n8_9.out (D 8 (by kernel_rfl)) (D 9 (by kernel_rfl)) (by rw [e])
      exact ⟨_, _, _, _, _, _, _, _, _, _, rfl, hG', (fun h => f0.out (or_ne h (by decide))), (fun h => f1.out (or_ne h (by decide))), (fun h => f2.out (or_ne h (by decide))), (fun h => f3.out (or_ne h (by decide))), (fun h => f4.out (or_ne h (by decide))), (fun h => f5.out (or_ne h (by decide))), (fun h => f6.out (or_ne h (by decide))), (fun _ => rfl), (fun _ => ⟨B8, _, _, rfl, hB8, ((k8.other (a := ⟨B9, 0, none⟩) hne8 _).other (a := ⟨B9, 1, none⟩) hne8 _), fun h => HC8.out (or_ne h (by decide))⟩), (fun _ => ⟨B9, _, _, rfl, hB9, ((k9.set 0 _).set 1 _), fun _ => ⟨rfl, rfl⟩⟩), (fun h h' => n8_9.out (or_ne h (by decide)) (or_ne h' (by decide)))⟩

  case hend =>
    intro d a w4' hall hI
    obtain ⟨u4, u5, u16, u17, u18, u19, u20, u21, u22, u23, rfl, hG, f0, f1, f2, f3, f4, f5, f6, f7, g8, g9, n89⟩ := hI
    simp only [List.length_cons, List.length_nil] at hall
    obtain rfl := f0.out (hall 0 (by decide))
    obtain rfl := f1.out (hall 1 (by decide))
    obtain rfl := f2.out (hall 2 (by decide))
    obtain rfl := f3.out (hall 3 (by decide))
    obtain rfl := f4.out (hall 4 (by decide))
    obtain rfl := f5.out (hall 5 (by decide))
    obtain rfl := f6.out (hall 6 (by decide))
    obtain rfl := f7.out (hall 7 (by decide))
    obtain ⟨B4, z0, z1, rfl, hB4, k4, c4⟩ := g8.out (hall 8 (by decide))
    obtain ⟨rfl, rfl⟩ := c4 (hall 10 (by decide))
    obtain ⟨B5, z2, z3, rfl, hB5, k5, c5⟩ := g9.out (hall 9 (by decide))
    obtain ⟨rfl, rfl⟩ := c5 (hall 11 (by decide))
    clear hall g8 g9 n89 c4 c5 H1 H2
    obtain ⟨w4, hw4⟩ : ∃ w4, w4 = w4' := ⟨_, rfl⟩
    rw [← hw4] at k4 k5 hG ⊢
    clear hw4
    have hW3 := gA.size
    replace gA := gA.trans hG
    replace bY := bY.gr hG
    obtain ⟨p0, p1⟩ := k4.two
    obtain ⟨q0, q1⟩ := k5.two
    have R1 := hid0 (run_any (ia / s, ib / s) (ia / s, id / s) (0, 1))
    gi_wp2_with (refine (callsIn_wide.2 (R1.out _)).mono ?_; rintro e W0 ⟨rfl, rfl⟩; clear R1)
    have gR : Gr w4 (((w4.alloc (.cells #[.int .i32 (ia / s), .int .i32 (ib / s)] 26)).alloc (.cells #[.int .i32 (ia / s), .int .i32 (id / s)] 26)).alloc (.cells #[.int .i32 0, .int .i32 1] 26)) := (((Gr.refl _).alloc _).alloc _).alloc _
    have m1 := ((Bk.new w4 26 [.int .i32 (ia / s), .int .i32 (ib / s)]).alloc (.cells #[.int .i32 (ia / s), .int .i32 (id / s)] 26)).alloc (.cells #[.int .i32 0, .int .i32 1] 26)
    have m2 := (Bk.new (w4.alloc (.cells #[.int .i32 (ia / s), .int .i32 (ib / s)] 26)) 26 [.int .i32 (ia / s), .int .i32 (id / s)]).alloc (.cells #[.int .i32 0, .int .i32 1] 26)
    have m3 := Bk.new ((w4.alloc (.cells #[.int .i32 (ia / s), .int .i32 (ib / s)] 26)).alloc (.cells #[.int .i32 (ia / s), .int .i32 (id / s)] 26)) 26 [.int .i32 0, .int .i32 1]
    simp only [World.size_alloc] at m2 m3
    clear p0 p1 q0 q1
    have b5lt := k5.lt
    have b5 := k5.gr gR
    have gW := gA.trans gR
    have b4 := bY.gr gR
    have hw4 := gA.size
    generalize ((w4.alloc (.cells #[.int .i32 (ia / s), .int .i32 (ib / s)] 26)).alloc (.cells #[.int .i32 (ia / s), .int .i32 (id / s)] 26)).alloc (.cells #[.int .i32 0, .int .i32 1] 26) = W0 at *
    have hlt3 : w4.heap.size + 2 < W0.heap.size := m3.lt
    have e47 : ∀ args w, (callFunc 47 args).run Try.prog w = .ok (.enter 47 args) w := enters_of Try.func47 (by kernel_rfl) rfl
    have hB5W : W.heap.size ≤ B5 := by omega
    refine range_out (p0 := fun b => b = w4.heap.size ∨ b = w4.heap.size + 1 ∨ b = w4.heap.size + 2 ∨ b = B5) (L := runL (ia / s, ib / s) (0, 1) (ky + 1)) (encs := cEnc) (I := fun p pre A => LnO (rowC kx) J W.heap.size l ps W p pre A ∧ Bk A B5 26 [.int .i32 (ic / s), .int .i32 (id / s)]) (Ix := LnX Jx L)
      (Ax := fun x a' A => ∃ B6, W0.heap.size ≤ B6 ∧ Bk A B6 26 [.int .i32 x.1, .int .i32 x.2] ∧ a' = { tmps := #[.func (.yield l) #[] #[], .pointer (some ⟨bs, 0, none⟩), .pointer (some ⟨bb, 0, none⟩), .pointer (some ⟨W.heap.size, 0, none⟩), .pointer (some ⟨B4, 0, none⟩), .pointer (some ⟨B5, 0, none⟩), .pointer (some ⟨B6, 0, none⟩), undef, .int .i64 s, .bool true, .bool false, .bool false, Value.agg #[.int .i32 ia, .int .i32 ib, .int .i32 ic, .int .i32 id], .bool true, .bool false, .bool false, .pointer (some ⟨bb, 0, none⟩), pt ia ib, .int .i64 s, pt (ia / s) (ib / s), .pointer (some ⟨bb, 2, none⟩), pt ic id, .int .i64 s, pt (ic / s) (id / s), Value.agg #[.int .i32 (ia / s), .int .i32 (ib / s)], .pointer (some ⟨B4, 0, none⟩), .int .i32 (ia / s), .pointer (some ⟨B5, 1, none⟩), .int .i32 (id / s), Value.agg #[.int .i32 (ia / s), .int .i32 (id / s)], Value.agg #[.int .i32 0, .int .i32 1], .func (.func 47) #[] #[.pointer (some ⟨w4.heap.size, 0, none⟩), .pointer (some ⟨w4.heap.size + 1, 0, none⟩), .pointer (some ⟨w4.heap.size + 2, 0, none⟩)], cv x, undef, undef, undef, undef, undef, undef, undef, undef, undef, undef, undef, undef, undef], defers := [] })
      rfl e47 (run_seq (n - 1) w4.heap.size (w4.heap.size + 1) (w4.heap.size + 2) (ia / s, ib / s) (ia / s, id / s) (0, 1) ky HL.out.1 _ W0 m1 m2 m3 (.inl rfl) (.inr (.inl rfl)) (.inr (.inr (.inl rfl))))
      ?owes (fun b => ((((ps b ∨ b = W.heap.size) ∨ b = w4.heap.size) ∨ b = w4.heap.size + 1) ∨ b = w4.heap.size + 2) ∨ b = B5) ?p0 ?pw ?start ?done ?stop
    case p0 =>
      rintro b (h | h | h | h)
      · exact .inl (.inl (.inl (.inr h)))
      · exact .inl (.inl (.inr h))
      · exact .inl (.inr h)
      · exact .inr h
    case pw =>
      rintro b (((((h | h) | h) | h) | h) | h)
      · have := hps b h; have := gW.size; omega
      · have := b4.lt; omega
      · omega
      · omega
      · omega
      · have := b5.lt; omega
    case start =>
      refine ⟨⟨_, fun c h => h, hJ.gr (hJ.new _ _ _ _ (hJ.new _ _ _ _ (hJ.new _ _ _ _ (hJ.new _ _ _ _ (hJ.new _ _ _ _ h0 (Nat.le_refl _)) hw4) (by omega)) (by omega)) hB5W) gW, .inl (.inl (.inl (.inl (.inr rfl)))), fun c hc => .inl (.inl (.inl (.inl (.inl hc)))), b4, gW.size⟩, b5⟩
    case done =>
      rintro D q' A hD ⟨⟨q2, h1, h2, h3, h4, h5, h6⟩, _⟩ hq hK
      rw [← HL.out.2.2] at h2
      gi_wp2
      refine ⟨by simp, .inl ⟨_, _, rfl, run_takeDeferred hK, ?_⟩⟩
      exact ⟨_, results_none rfl _ _ _, ⟨_, rfl⟩, .inl ⟨q2, (hJ.ownFrom q2).putObj _ h2 (by have := gW.size; omega) hK rfl, h4⟩⟩
    case stop =>
      rintro D c pre A hD hpre ⟨rfl, u, hu, hx⟩ hK
      gi_wp2
      refine ⟨by simp, .inl ⟨_, _, rfl, run_takeDeferred hK, ?_⟩⟩
      exact ⟨_, results_none rfl _ _ _, ⟨_, rfl⟩, .inr ⟨u, hu, hJx.putObj _ hx (by have := gW.size; omega) hK rfl⟩⟩
    case owes =>
      have hcO : Con W0.heap.size (fun p pre A => LnO (rowC kx) J W.heap.size l ps W p pre A ∧ Bk A B5 26 [.int .i32 (ic / s), .int .i32 (id / s)]) := by
        have h := lno_con (cells := rowC kx) (J := J) (b := W.heap.size) (l := l) (ps := ps) (W := W) (B := W0.heap.size) hJ gW.size b4.lt
        refine ⟨fun p s' A A' row hs hg hr => ⟨h.own p s' A A' row hs.1 hg hr, hs.2.same (hg.block B5 hs.2.lt (fun e => by have h1 := (hr B5 e.symm).1; have h2 := b5.lt; omega))⟩, fun p s' A b hs hb => ⟨h.new p s' A b hs.1 hb, hs.2⟩, fun p q s' A hs hb => ⟨h.sub p q s' A hs.1 hb, hs.2⟩⟩
      refine ⟨hcO, lnx_con hJx gW.size, ?_, fun _ => rfl, ?_, ?_⟩
      · rintro x a' _ X Y row ⟨B6, e1, e2, e3⟩ hg hr
        exact ⟨B6, e1, bk_own e2 hg hr, e3⟩
      · rintro lr p' pre x A K hp hpb hI hsA hK
        have g : Gr A (A.alloc (.cells #[.int .i32 x.1, .int .i32 x.2] 26)) := (Gr.refl _).alloc _
        gi_wp2
        exact hK _ _ (g.from _) (Kp.gr hpb g) (hcO.gr hI g) ⟨A.heap.size, hsA, Bk.new A 26 _, rfl⟩
      · rintro lr p' pre x a' Wb hl ⟨r, hr⟩ hp hpb ⟨⟨qq, j0, j1, j2, j3, j4, j5⟩, jB⟩ ⟨B6, hB6, k6, rfl⟩ hpre
        have h2n : 1 ≤ n - 1 - 1 := by omega
        obtain ⟨x0, x1⟩ := k6.two
        obtain ⟨y0, y1⟩ := jB.two
        have R37 := hid0 (run_any x (ic / s, x.2) (1, 0))
        obtain ⟨ri, hri, hxr⟩ := run_of hpre
        have hRun : Runs x (ic / s, x.2) (1, 0) kx := by rw [hxr]; exact HL.out.2.1 ri hri
        have HRun := hid0 hRun
        clear hRun hxr
        gi_wp2_with (refine (CallsIn.inRound lr (callsIn_wide.2 (R37.out _))).mono ?_; rintro e W5 ⟨rfl, rfl⟩)
        have g5' : Gr Wb (((Wb.alloc (.cells #[.int .i32 x.1, .int .i32 x.2] 26)).alloc (.cells #[.int .i32 (ic / s), .int .i32 x.2] 26)).alloc (.cells #[.int .i32 1, .int .i32 0] 26)) := (((Gr.refl _).alloc _).alloc _).alloc _
        have m1' := ((Bk.new Wb 26 [.int .i32 x.1, .int .i32 x.2]).alloc (.cells #[.int .i32 (ic / s), .int .i32 x.2] 26)).alloc (.cells #[.int .i32 1, .int .i32 0] 26)
        have m2' := (Bk.new (Wb.alloc (.cells #[.int .i32 x.1, .int .i32 x.2] 26)) 26 [.int .i32 (ic / s), .int .i32 x.2]).alloc (.cells #[.int .i32 1, .int .i32 0] 26)
        have m3' := Bk.new ((Wb.alloc (.cells #[.int .i32 x.1, .int .i32 x.2] 26)).alloc (.cells #[.int .i32 (ic / s), .int .i32 x.2] 26)) 26 [.int .i32 1, .int .i32 0]
        simp only [World.size_alloc] at m2' m3'
        generalize ((Wb.alloc (.cells #[.int .i32 x.1, .int .i32 x.2] 26)).alloc (.cells #[.int .i32 (ic / s), .int .i32 x.2] 26)).alloc (.cells #[.int .i32 1, .int .i32 0] 26) = W5 at *
        clear x0 x1 y0 y1 R37
        have hlr : lr < Wb.heap.size := (Array.getElem?_eq_some_iff.1 hr).1
        have hl5 : W5.heap[lr]? = some (.loop r) := (g5'.below.block lr hlr).trans hr
        have h3lt : Wb.heap.size + 2 < W5.heap.size := m3'.lt
        have hWWb : W.heap.size ≤ Wb.heap.size := j5
        have hW0 : W0.heap.size ≤ Wb.heap.size := by omega
        have j4' := j4.gr g5'
        refine range_in (p0 := fun b => b = Wb.heap.size ∨ b = Wb.heap.size + 1 ∨ b = Wb.heap.size + 2) (L := rowC kx x) (encs := cEnc) (I := LnI J W.heap.size l ps W Wb W0.heap.size p' (pre.flatMap (rowC kx))) (Ix := LnY Jx L Wb W0.heap.size)
          (Ax := fun c a' A => ∃ B7, W5.heap.size ≤ B7 ∧ Bk A B7 26 [.int .i32 c.1, .int .i32 c.2] ∧ a' = { tmps := #[.func (.yield l) #[] #[], .pointer (some ⟨bs, 0, none⟩), .pointer (some ⟨bb, 0, none⟩), .pointer (some ⟨W.heap.size, 0, none⟩), .pointer (some ⟨B4, 0, none⟩), .pointer (some ⟨B5, 0, none⟩), .pointer (some ⟨B6, 0, none⟩), .pointer (some ⟨B7, 0, none⟩), .int .i64 s, .bool true, .bool false, .bool false, Value.agg #[.int .i32 ia, .int .i32 ib, .int .i32 ic, .int .i32 id], .bool true, .bool false, .bool false, .pointer (some ⟨bb, 0, none⟩), pt ia ib, .int .i64 s, pt (ia / s) (ib / s), .pointer (some ⟨bb, 2, none⟩), pt ic id, .int .i64 s, pt (ic / s) (id / s), Value.agg #[.int .i32 (ia / s), .int .i32 (ib / s)], .pointer (some ⟨B4, 0, none⟩), .int .i32 (ia / s), .pointer (some ⟨B5, 1, none⟩), .int .i32 (id / s), Value.agg #[.int .i32 (ia / s), .int .i32 (id / s)], Value.agg #[.int .i32 0, .int .i32 1], .func (.func 47) #[] #[.pointer (some ⟨w4.heap.size, 0, none⟩), .pointer (some ⟨w4.heap.size + 1, 0, none⟩), .pointer (some ⟨w4.heap.size + 2, 0, none⟩)], cv x, Value.agg #[.int .i32 x.1, .int .i32 x.2], .pointer (some ⟨B5, 0, none⟩), .int .i32 (ic / s), .pointer (some ⟨B6, 1, none⟩), .int .i32 x.2, Value.agg #[.int .i32 (ic / s), .int .i32 x.2], Value.agg #[.int .i32 1, .int .i32 0], .func (.func 47) #[] #[.pointer (some ⟨Wb.heap.size, 0, none⟩), .pointer (some ⟨Wb.heap.size + 1, 0, none⟩), .pointer (some ⟨Wb.heap.size + 2, 0, none⟩)], cv c, undef, undef, undef, undef], defers := [] }) hl5
          rfl e47 (run_seq (n - 1 - 1 - 1) Wb.heap.size (Wb.heap.size + 1) (Wb.heap.size + 2) x (ic / s, x.2) (1, 0) kx HRun.out _ W5 m1' m2' m3' (.inl rfl) (.inr (.inl rfl)) (.inr (.inr rfl)))
          ?owes (fun b => ((p' b ∨ b = Wb.heap.size) ∨ b = Wb.heap.size + 1) ∨ b = Wb.heap.size + 2) ?p0 ?pw ?start ?done ?stop
        case p0 =>
          rintro b (h | h | h)
          · exact .inl (.inl (.inr h))
          · exact .inl (.inr h)
          · exact .inr h
        case pw =>
          rintro b (((h | h) | h) | h)
          · have := hpb b h; have := g5'.size; omega
          · omega
          · omega
          · omega
        case start =>
          refine ⟨fun b => ((qq b ∨ b = Wb.heap.size) ∨ b = Wb.heap.size + 1) ∨ b = Wb.heap.size + 2, ?_, ?_, .inl (.inl (.inl j2)), fun c hc => .inl (.inl (.inl (j3 c hc))), j4', Nat.le_trans hWWb g5'.size, fun c hc => .inl (.inl (.inl (j0 c hc))), Kp.gr hpb g5', g5'.from _⟩
          · rintro c (((h | h) | h) | h)
            · exact .inl (.inl (.inl (j0 c h)))
            · exact .inl (.inl (.inr h))
            · exact .inl (.inr h)
            · exact .inr h
          · rw [List.append_nil]
            exact hJ.gr (hJ.new _ _ _ _ (hJ.new _ _ _ _ (hJ.new _ _ _ _ j1 (Nat.le_refl _)) (by omega)) (by omega)) g5'
        case done =>
          rintro q' A ⟨q2, i0, i1, i2, i3, i4, i5, i6, i7, i8⟩ hq
          exact ⟨i8, i7, ⟨q2, i6, by rw [List.flatMap_append, List.flatMap_cons, List.flatMap_nil, List.append_nil]; exact i1, i2, i3, i4, i5⟩, jB.same (i7 B5 (hp B5 (.inr (.inr (.inr rfl)))))⟩
        case stop =>
          rintro c pre2 A hpre2 ⟨rfl, hu, hk2⟩
          gi_wp2
          exact ⟨hk2, rfl, hu⟩
        case owes =>
          have hcI : Con W5.heap.size (LnI J W.heap.size l ps W Wb W0.heap.size p' (pre.flatMap (rowC kx))) := lni_con hJ (Nat.le_trans hWWb g5'.size) j4'.lt g5'.size hpb
          refine ⟨hcI, lny_con hJx (Nat.le_trans hWWb g5'.size) g5'.size, ?_, fun _ => rfl, ?_, ?_⟩
          · rintro c a' _ X Y row ⟨B7, e1, e2, e3⟩ hg hr
            exact ⟨B7, e1, bk_own e2 hg hr, e3⟩
          · rintro l2 p2 pre2 c A K hp2 hpb2 hI hsA hK
            have g : Gr A (A.alloc (.cells #[.int .i32 c.1, .int .i32 c.2] 26)) := (Gr.refl _).alloc _
            gi_wp2
            exact hK _ _ (g.from _) (Kp.gr hpb2 g) (hcI.gr hI g) ⟨A.heap.size, hsA, Bk.new A 26 _, rfl⟩
          · rintro l2 p2 pre2 c a' A hl2 ⟨r2, hr2⟩ hp2 hpb2 ⟨q2, i0, i1, i2, i3, i4, i5, i6, i7, i8⟩ ⟨B7, hB7, k7, rfl⟩ hpre2
            have h3n : 1 ≤ n - 1 - 1 - 1 - 1 := by omega
            have y0 := i4.one
            obtain ⟨z0, z1⟩ := k7.two
            have hy := hY (fun b => q2 b ∧ b < A.heap.size) (pre.flatMap (rowC kx) ++ pre2) c A (fun b hb => ⟨i3 b hb, by have := hps b hb; omega⟩) (fun b hb => hb.2) (hJ.sub _ _ _ _ i1 (fun b hb => hb.1)) i5 (by rw [HL.out.2.2]; exact flat_pre hpre hpre2)
            obtain ⟨fn, tmps, assign, body, hy, hRd⟩ := yield_round (l0 := l2) (yield_depth (n - 1 - 1 - 1 - 1 - 1) hy)
            dsimp only [cEnc] at hy
            gi_wp2
            refine hRd.mono ?_
            have hB : W.heap.size ≤ W5.heap.size := Nat.le_trans hWWb g5'.size
            rintro e A' (⟨rfl, hJ', hk', hf'⟩ | ⟨rfl, hJx', hf'⟩)
            · gi_wp2
              refine ⟨keepsFrom_mono hf' hB, fun b hb => hk' b ⟨i0 b hb, hpb2 b hb⟩, fun b => q2 b ∧ b < A.heap.size, fun b hb => ⟨i0 b hb, hpb2 b hb⟩, ?_, ⟨i2, i4.lt⟩, fun b hb => ⟨i3 b hb, by have := hps b hb; omega⟩, i4.same (hk' _ ⟨i2, i4.lt⟩), Nat.le_trans i5 hf'.size, fun b hb => ⟨i6 b hb, by have h1 := hpb b hb; have h2 := i8.size; omega⟩, i7.t (fun b hb => hk' b ⟨i6 b hb, by have h1 := hpb b hb; have h2 := i8.size; omega⟩), i8.trans (keepsFrom_mono hf' gW.size)⟩
              rw [← List.append_assoc]; exact hJ'
            · gi_wp2
              exact ⟨keepsFrom_mono hf' hB, rfl, ⟨_, by rw [HL.out.2.2]; exact flat_pre hpre hpre2, hJx'⟩, i8.trans (keepsFrom_mono hf' gW.size)⟩
end Go.Proofs.Ytmoddfikhipagaa
