/- columns: the iterator over the lowest and the highest cell of each column. -/
import Derived.Test.YtmoddfikhipagaaAx
import Derived.Deep.DeepMust
import Derived.Sort.LoopGhostIn
import Derived.Sort.CutIn
set_option linter.unusedSimpArgs false
set_option linter.unusedVariables false
namespace Go.Proofs.Ytmoddfikhipagaa
open Go.RowKit Go.Sort Go.Shelf
attribute [local go_sem] Oper.semAt_some wide_fn
attribute [local simp] wide_fn

/-- The cell of a point. -/
def hol (p : C2) (s : Int) : C2 := (p.1 / s, p.2 / s)
def entP (p q : C2) (s : Int) : Nat → C2
  | 0 => hol p s
  | i + 1 => theP p q s (p.1 / s + (i + 1 : Nat))
def leaP (p q : C2) (s : Int) (k i : Nat) : C2 := if i < k then befP p q s (p.1 / s + (i + 1 : Nat)) else hol q s
def colP (p q : C2) (s : Int) (k i : Nat) : C2 × C2 := byH (entP p q s i) (leaP p q s k i)
def colsL (p q : C2) (s : Int) (k m : Nat) : List (C2 × C2) := (List.range m).map (colP p q s k)
theorem colsL_succ (p q : C2) (s : Int) (k m : Nat) : colsL p q s k (m + 1) = colsL p q s k m ++ [colP p q s k m] := by simp [colsL, List.range_succ]
theorem colsL_pre (p q : C2) (s : Int) (k : Nat) {i m : Nat} (h : i ≤ m) : colsL p q s k i <+: colsL p q s k m := by
  obtain ⟨d, rfl⟩ := Nat.le.dest h
  induction d with
  | zero => exact List.prefix_refl _
  | succ d ih => rw [← Nat.add_assoc, colsL_succ]; exact (ih (by omega)).trans (List.prefix_append _ _)
abbrev kEnc (c : C2 × C2) : Array Value := #[pt c.1.1 c.1.2, pt c.2.1 c.2.2]
theorem ent_x (p q : C2) (s : Int) (i : Nat) : (entP p q s i).1 = p.1 / s + i := by
  cases i with
  | zero => simp [entP, hol]
  | succ i => rfl

/-- What the walk over the columns holds when m of them are to come behind this one. -/
def ColAt (J : (Nat → Prop) → List (C2 × C2) → World → Prop) (p q : C2) (s : Int) (k : Nat) (ps : Nat → Prop) (W : World) (B5 B6 : Nat) (m : Nat) (wr : World) : Prop :=
  m ≤ k ∧ ∃ qs, Bk wr B5 26 [.int .i32 (entP p q s (k - m)).1, .int .i32 (entP p q s (k - m)).2] ∧ Bk wr B6 26 [.int .i32 (hol q s).1, .int .i32 (hol q s).2] ∧ qs B5 ∧ qs B6 ∧ (∀ b, ps b → qs b) ∧ (∀ c, qs c → c < wr.heap.size) ∧
    J qs (colsL p q s k (k - m)) wr ∧ Kp ps W wr ∧ W.heap.size ≤ wr.heap.size

def InvC (W : World) (yv : Value) (bp bs bq : Nat) (px py qx qy s X Y Z U : Int) (d : Nat → Prop) (a : Act) (w : World) : Prop :=
  ∃ u5 u6 u9 u10 u11 u12 u13 u14 : Value, a = { tmps := (yv :: .pointer (some ⟨bp, 0, none⟩) :: .pointer (some ⟨bs, 0, none⟩) :: .pointer (some ⟨bq, 0, none⟩) :: undef :: u5 :: u6 :: undef :: undef :: u9 :: u10 :: u11 :: u12 :: u13 :: u14 :: undef :: undef :: undef :: undef :: undef :: undef :: undef :: undef :: undef :: undef :: undef :: undef :: undef :: undef :: undef :: undef :: undef :: undef :: undef :: undef :: undef :: undef :: undef :: undef :: undef :: undef :: undef :: undef :: undef :: undef :: undef :: []).toArray, defers := [] } ∧ Gr W w
  ∧ Hid (d 0 → u9 = pt px py)
  ∧ Hid (d 1 → u10 = .int .i64 s)
  ∧ Hid (d 2 → u11 = pt X Y)
  ∧ Hid (d 3 → u12 = pt qx qy)
  ∧ Hid (d 4 → u13 = .int .i64 s)
  ∧ Hid (d 5 → u14 = pt Z U)
  ∧ Hid (d 6 → ∃ (B : Nat) (x0 x1 : Value), u5 = .pointer (some ⟨B, 0, none⟩) ∧ W.heap.size ≤ B ∧ Bk w B 26 [x0, x1] ∧ (d 8 → x0 = Value.int .i32 X ∧ x1 = Value.int .i32 Y))
  ∧ Hid (d 7 → ∃ (B : Nat) (x0 x1 : Value), u6 = .pointer (some ⟨B, 0, none⟩) ∧ W.heap.size ≤ B ∧ Bk w B 26 [x0, x1] ∧ (d 9 → x0 = Value.int .i32 Z ∧ x1 = Value.int .i32 U))
  ∧ Hid (d 6 → d 7 → u5 ≠ u6)

set_option maxRecDepth 100000 in
set_option maxHeartbeats 8000000 in
theorem cols_in (n : Nat) (hn : 3 ≤ n) (l bp bs bq : Nat) (p q : C2) (s : Int) (k : Nat) (hp : latP p) (hq : latP q) (hs : 1 ≤ s) (hk : q.1 / s = p.1 / s + k) (J : (Nat → Prop) → List (C2 × C2) → World → Prop) (Jx : List (C2 × C2) → World → Prop) (ps : Nat → Prop) (W : World)
    (kp : Bk W bp 23 [.int .i32 p.1, .int .i32 p.2]) (ks : Bk W bs 2 [.int .i64 s]) (kq : Bk W bq 23 [.int .i32 q.1, .int .i32 q.2]) (pp : ps bp) (pS : ps bs) (pq : ps bq)
    (hps : ∀ b, ps b → b < W.heap.size) (hJ : Con W.heap.size J)
    (hY : ∀ p' pre x W1, (∀ b, ps b → p' b) → (∀ b, p' b → b < W1.heap.size) → J p' pre W1 → W.heap.size ≤ W1.heap.size → pre ++ [x] <+: colsL p q s k (k + 1) → YieldAt Fence.wide 0 Try.prog l (kEnc x) W1 (RoundEnds W.heap.size J Jx p' (pre ++ [x]) W1))
    (h0 : J ps [] W) :
    CallsIn Fence.wide n Try.prog 48 #[.func (.yield l) #[] #[], .pointer (some ⟨bp, 0, none⟩), .pointer (some ⟨bs, 0, none⟩), .pointer (some ⟨bq, 0, none⟩)] W fun e W' => (∃ v, e = .returned v) ∧
      ((∃ q', J q' (colsL p q s k (k + 1)) W' ∧ ∀ b, ps b → q' b) ∨ (∃ pre, pre <+: colsL p q s k (k + 1) ∧ Jx pre W')) := by
  have p32 : in32 p.1 ∧ in32 p.2 := by unfold latP at hp; unfold in32; omega
  have q32 : in32 q.1 ∧ in32 q.2 := by unfold latP at hq; unfold in32; omega
  have H1 := hid0 (holder_any p.1 p.2 s p32.1 p32.2 hs)
  have H2 := hid0 (holder_any q.1 q.2 s q32.1 q32.2 hs)
  have h1n : 1 ≤ n := by omega
  refine callsIn_of_wp Try.func48 rfl trivial ?_ rfl
  simp only [Try.ntmps48, List.size_toArray, List.length_cons, List.length_nil, Nat.reduceAdd, Nat.reduceSub, Array.replicate_succ, Array.replicate_zero, List.push_toArray, List.append_toArray, List.nil_append, List.cons_append]
  refine wpIn_seq ?_
  refine region_inv (by kernel_rfl) (by kernel_rfl) (InvC W (.func (.yield l) #[] #[]) bp bs bq p.1 p.2 q.1 q.2 s (p.1 / s) (p.2 / s) (q.1 / s) (q.2 / s)) ?h0 ?hstep ?hend
  case h0 =>
    exact ⟨_, _, _, _, _, _, _, _, rfl, (Gr.refl _).drew, fun h => h.elim, fun h => h.elim, fun h => h.elim, fun h => h.elim, fun h => h.elim, fun h => h.elim, fun h => h.elim, fun h => h.elim, fun h => h.elim⟩
  case hstep =>
    clear hY h0 hJ hps pp pS pq hp hq hs hk
    intro d a w i o ho hnd D hdn hI
    have hi := (List.getElem?_eq_some_iff.1 ho).1
    simp only [List.length_cons, List.length_nil] at hi
    have : i = 0 ∨ i = 1 ∨ i = 2 ∨ i = 3 ∨ i = 4 ∨ i = 5 ∨ i = 6 ∨ i = 7 ∨ i = 8 ∨ i = 9 := by omega
    rcases this with rfl | rfl | rfl | rfl | rfl | rfl | rfl | rfl | rfl | rfl
    · -- 0
      cases ho
      obtain ⟨u5, u6, u9, u10, u11, u12, u13, u14, rfl, hG, f0, f1, f2, f3, f4, f5, g6, g7, n6_7⟩ := hI
      obtain ⟨p0, p1⟩ := (kp.gr hG).two
      gi_wp2
      exact ⟨_, _, _, _, _, _, _, _, rfl, hG, (fun _ => rfl), (fun h => f1.out (or_ne h (by decide))), (fun h => f2.out (or_ne h (by decide))), (fun h => f3.out (or_ne h (by decide))), (fun h => f4.out (or_ne h (by decide))), (fun h => f5.out (or_ne h (by decide))), (fun h => by obtain ⟨B, x0, x1, q1, q2, q3, q4⟩ := g6.out (or_ne h (by decide)); exact ⟨B, x0, x1, q1, q2, q3, fun h => q4 (or_ne h (by decide))⟩), (fun h => by obtain ⟨B, x0, x1, q1, q2, q3, q4⟩ := g7.out (or_ne h (by decide)); exact ⟨B, x0, x1, q1, q2, q3, fun h => q4 (or_ne h (by decide))⟩), (fun h h' => n6_7.out (or_ne h (by decide)) (or_ne h' (by decide)))⟩
    · -- 1
      cases ho
      obtain ⟨u5, u6, u9, u10, u11, u12, u13, u14, rfl, hG, f0, f1, f2, f3, f4, f5, g6, g7, n6_7⟩ := hI
      have s0 := (ks.gr hG).one
      gi_wp2
      exact ⟨_, _, _, _, _, _, _, _, rfl, hG, (fun h => f0.out (or_ne h (by decide))), (fun _ => rfl), (fun h => f2.out (or_ne h (by decide))), (fun h => f3.out (or_ne h (by decide))), (fun h => f4.out (or_ne h (by decide))), (fun h => f5.out (or_ne h (by decide))), (fun h => by obtain ⟨B, x0, x1, q1, q2, q3, q4⟩ := g6.out (or_ne h (by decide)); exact ⟨B, x0, x1, q1, q2, q3, fun h => q4 (or_ne h (by decide))⟩), (fun h => by obtain ⟨B, x0, x1, q1, q2, q3, q4⟩ := g7.out (or_ne h (by decide)); exact ⟨B, x0, x1, q1, q2, q3, fun h => q4 (or_ne h (by decide))⟩), (fun h h' => n6_7.out (or_ne h (by decide)) (or_ne h' (by decide)))⟩
    · -- 2
      cases ho
      obtain ⟨u5, u6, u9, u10, u11, u12, u13, u14, rfl, hG, f0, f1, f2, f3, f4, f5, g6, g7, n6_7⟩ := hI
      have e0 := f0.out (D 0 (by kernel_rfl))
      subst e0
      have e1 := f1.out (D 1 (by kernel_rfl))
      subst e1
      gi_wp2_with (refine (callsIn_wide.2 (H1.out _)).mono ?_; rintro e w1 ⟨rfl, h1⟩)
      have hG' := hG.trans h1
      exact ⟨_, _, _, _, _, _, _, _, rfl, hG', (fun _ => rfl), (fun _ => rfl), (fun _ => rfl), (fun h => f3.out (or_ne h (by decide))), (fun h => f4.out (or_ne h (by decide))), (fun h => f5.out (or_ne h (by decide))), (fun h => by obtain ⟨B, x0, x1, q1, q2, q3, q4⟩ := g6.out (or_ne h (by decide)); exact ⟨B, x0, x1, q1, q2, q3.gr h1, fun h => q4 (or_ne h (by decide))⟩), (fun h => by obtain ⟨B, x0, x1, q1, q2, q3, q4⟩ := g7.out (or_ne h (by decide)); exact ⟨B, x0, x1, q1, q2, q3.gr h1, fun h => q4 (or_ne h (by decide))⟩), (fun h h' => n6_7.out (or_ne h (by decide)) (or_ne h' (by decide)))⟩
    · -- 3
      cases ho
      obtain ⟨u5, u6, u9, u10, u11, u12, u13, u14, rfl, hG, f0, f1, f2, f3, f4, f5, g6, g7, n6_7⟩ := hI
      obtain ⟨q0, q1⟩ := (kq.gr hG).two
      gi_wp2
      exact ⟨_, _, _, _, _, _, _, _, rfl, hG, (fun h => f0.out (or_ne h (by decide))), (fun h => f1.out (or_ne h (by decide))), (fun h => f2.out (or_ne h (by decide))), (fun _ => rfl), (fun h => f4.out (or_ne h (by decide))), (fun h => f5.out (or_ne h (by decide))), (fun h => by obtain ⟨B, x0, x1, q1, q2, q3, q4⟩ := g6.out (or_ne h (by decide)); exact ⟨B, x0, x1, q1, q2, q3, fun h => q4 (or_ne h (by decide))⟩), (fun h => by obtain ⟨B, x0, x1, q1, q2, q3, q4⟩ := g7.out (or_ne h (by decide)); exact ⟨B, x0, x1, q1, q2, q3, fun h => q4 (or_ne h (by decide))⟩), (fun h h' => n6_7.out (or_ne h (by decide)) (or_ne h' (by decide)))⟩
    · -- 4
      cases ho
      obtain ⟨u5, u6, u9, u10, u11, u12, u13, u14, rfl, hG, f0, f1, f2, f3, f4, f5, g6, g7, n6_7⟩ := hI
      have s0 := (ks.gr hG).one
      gi_wp2
      exact ⟨_, _, _, _, _, _, _, _, rfl, hG, (fun h => f0.out (or_ne h (by decide))), (fun h => f1.out (or_ne h (by decide))), (fun h => f2.out (or_ne h (by decide))), (fun h => f3.out (or_ne h (by decide))), (fun _ => rfl), (fun h => f5.out (or_ne h (by decide))), (fun h => by obtain ⟨B, x0, x1, q1, q2, q3, q4⟩ := g6.out (or_ne h (by decide)); exact ⟨B, x0, x1, q1, q2, q3, fun h => q4 (or_ne h (by decide))⟩), (fun h => by obtain ⟨B, x0, x1, q1, q2, q3, q4⟩ := g7.out (or_ne h (by decide)); exact ⟨B, x0, x1, q1, q2, q3, fun h => q4 (or_ne h (by decide))⟩), (fun h h' => n6_7.out (or_ne h (by decide)) (or_ne h' (by decide)))⟩
    · -- 5
      cases ho
      obtain ⟨u5, u6, u9, u10, u11, u12, u13, u14, rfl, hG, f0, f1, f2, f3, f4, f5, g6, g7, n6_7⟩ := hI
      have e3 := f3.out (D 3 (by kernel_rfl))
      subst e3
      have e4 := f4.out (D 4 (by kernel_rfl))
      subst e4
      gi_wp2_with (refine (callsIn_wide.2 (H2.out _)).mono ?_; rintro e w1 ⟨rfl, h1⟩)
      have hG' := hG.trans h1
      exact ⟨_, _, _, _, _, _, _, _, rfl, hG', (fun h => f0.out (or_ne h (by decide))), (fun h => f1.out (or_ne h (by decide))), (fun h => f2.out (or_ne h (by decide))), (fun _ => rfl), (fun _ => rfl), (fun _ => rfl), (fun h => by obtain ⟨B, x0, x1, q1, q2, q3, q4⟩ := g6.out (or_ne h (by decide)); exact ⟨B, x0, x1, q1, q2, q3.gr h1, fun h => q4 (or_ne h (by decide))⟩), (fun h => by obtain ⟨B, x0, x1, q1, q2, q3, q4⟩ := g7.out (or_ne h (by decide)); exact ⟨B, x0, x1, q1, q2, q3.gr h1, fun h => q4 (or_ne h (by decide))⟩), (fun h h' => n6_7.out (or_ne h (by decide)) (or_ne h' (by decide)))⟩
    · -- 6
      cases ho
      obtain ⟨u5, u6, u9, u10, u11, u12, u13, u14, rfl, hG, f0, f1, f2, f3, f4, f5, g6, g7, n6_7⟩ := hI
      gi_wp2
      have h1 := (Gr.refl w).alloc (.cells #[Value.int .i32 0, Value.int .i32 0] 26)
      have hG' := hG.trans h1
      exact ⟨_, _, _, _, _, _, _, _, rfl, hG', (fun h => f0.out (or_ne h (by decide))), (fun h => f1.out (or_ne h (by decide))), (fun h => f2.out (or_ne h (by decide))), (fun h => f3.out (or_ne h (by decide))), (fun h => f4.out (or_ne h (by decide))), (fun h => f5.out (or_ne h (by decide))), (fun _ => ⟨w.heap.size, _, _, rfl, hG.size, Bk.new w 26 _, fun h => absurd (hdn 8 _ rfl (or_ne h (by decide)) 6 (by kernel_rfl)) hnd⟩), (fun h => by obtain ⟨B, x0, x1, q1, q2, q3, q4⟩ := g7.out (or_ne h (by decide)); exact ⟨B, x0, x1, q1, q2, q3.gr h1, fun h => q4 (or_ne h (by decide))⟩), (fun _ h => by obtain ⟨B, x0, x1, q1, q2, q3, q4⟩ := g7.out (or_ne h (by decide)); rw [q1]; intro e; have := q3.lt; cases e; omega)⟩
    · -- 7
      cases ho
      obtain ⟨u5, u6, u9, u10, u11, u12, u13, u14, rfl, hG, f0, f1, f2, f3, f4, f5, g6, g7, n6_7⟩ := hI
      gi_wp2
      have h1 := (Gr.refl w).alloc (.cells #[Value.int .i32 0, Value.int .i32 0] 26)
      have hG' := hG.trans h1
      exact ⟨_, _, _, _, _, _, _, _, rfl, hG', (fun h => f0.out (or_ne h (by decide))), (fun h => f1.out (or_ne h (by decide))), (fun h => f2.out (or_ne h (by decide))), (fun h => f3.out (or_ne h (by decide))), (fun h => f4.out (or_ne h (by decide))), (fun h => f5.out (or_ne h (by decide))), (fun h => by obtain ⟨B, x0, x1, q1, q2, q3, q4⟩ := g6.out (or_ne h (by decide)); exact ⟨B, x0, x1, q1, q2, q3.gr h1, fun h => q4 (or_ne h (by decide))⟩), (fun _ => ⟨w.heap.size, _, _, rfl, hG.size, Bk.new w 26 _, fun h => absurd (hdn 9 _ rfl (or_ne h (by decide)) 7 (by kernel_rfl)) hnd⟩), (fun h _ => by obtain ⟨B, x0, x1, q1, q2, q3, q4⟩ := g6.out (or_ne h (by decide)); rw [q1]; intro e; have := q3.lt; cases e; omega)⟩
    · -- 8
      cases ho
      obtain ⟨u5, u6, u9, u10, u11, u12, u13, u14, rfl, hG, f0, f1, f2, f3, f4, f5, g6, g7, n6_7⟩ := hI
      have e2 := f2.out (D 2 (by kernel_rfl))
      subst e2
      obtain ⟨B6, x6_0, x6_1, e6, hB6, k6, c6⟩ := g6.out (D 6 (by kernel_rfl))
      subst e6
      have HC6 := hid0 c6
      clear c6
      obtain ⟨B7, x7_0, x7_1, e7, hB7, k7, c7⟩ := g7.out (D 7 (by kernel_rfl))
      subst e7
      have HC7 := hid0 c7
      clear c7
      have z := fun j => k6.frozen j
      have z0 := z 0
      have y0 := k6.at 0
      have z1 := z 1
      have y1 := k6.at 1
      simp only [List.getElem?_cons_zero, List.getElem?_cons_succ] at y0 y1
      clear z
      gi_wp2
      have hG' := ((hG.setCell (p := ⟨B6, 0, none⟩) hB6 (Value.int .i32 (p.1 / s))).setCell (p := ⟨B6, 1, none⟩) hB6 (Value.int .i32 (p.2 / s)))
      have hne7 : B7 ≠ B6 := fun e => n6_7.out (D 6 (by kernel_rfl)) (D 7 (by kernel_rfl)) (by rw [e])
      exact ⟨_, _, _, _, _, _, _, _, rfl, hG', (fun h => f0.out (or_ne h (by decide))), (fun h => f1.out (or_ne h (by decide))), (fun _ => rfl), (fun h => f3.out (or_ne h (by decide))), (fun h => f4.out (or_ne h (by decide))), (fun h => f5.out (or_ne h (by decide))), (fun _ => ⟨B6, _, _, rfl, hB6, ((k6.set 0 _).set 1 _), fun _ => ⟨rfl, rfl⟩⟩), (fun _ => ⟨B7, _, _, rfl, hB7, ((k7.other (a := ⟨B6, 0, none⟩) hne7 _).other (a := ⟨B6, 1, none⟩) hne7 _), fun h => HC7.out (or_ne h (by decide))⟩), (fun h h' => n6_7.out (or_ne h (by decide)) (or_ne h' (by decide)))⟩
    · -- 9
      cases ho
      obtain ⟨u5, u6, u9, u10, u11, u12, u13, u14, rfl, hG, f0, f1, f2, f3, f4, f5, g6, g7, n6_7⟩ := hI
      have e5 := f5.out (D 5 (by kernel_rfl))
      subst e5
      obtain ⟨B6, x6_0, x6_1, e6, hB6, k6, c6⟩ := g6.out (D 6 (by kernel_rfl))
      subst e6
      have HC6 := hid0 c6
      clear c6
      obtain ⟨B7, x7_0, x7_1, e7, hB7, k7, c7⟩ := g7.out (D 7 (by kernel_rfl))
      subst e7
      have HC7 := hid0 c7
      clear c7
      have z := fun j => k7.frozen j
      have z0 := z 0
      have y0 := k7.at 0
      have z1 := z 1
      have y1 := k7.at 1
      simp only [List.getElem?_cons_zero, List.getElem?_cons_succ] at y0 y1
      clear z
      gi_wp2
      have hG' := ((hG.setCell (p := ⟨B7, 0, none⟩) hB7 (Value.int .i32 (q.1 / s))).setCell (p := ⟨B7, 1, none⟩) hB7 (Value.int .i32 (q.2 / s)))
      have hne6 : B6 ≠ B7 := fun e => n6_7.out (D 6 (by kernel_rfl)) (D 7 (by kernel_rfl)) (by rw [e])
      exact ⟨_, _, _, _, _, _, _, _, rfl, hG', (fun h => f0.out (or_ne h (by decide))), (fun h => f1.out (or_ne h (by decide))), (fun h => f2.out (or_ne h (by decide))), (fun h => f3.out (or_ne h (by decide))), (fun h => f4.out (or_ne h (by decide))), (fun _ => rfl), (fun _ => ⟨B6, _, _, rfl, hB6, ((k6.other (a := ⟨B7, 0, none⟩) hne6 _).other (a := ⟨B7, 1, none⟩) hne6 _), fun h => HC6.out (or_ne h (by decide))⟩), (fun _ => ⟨B7, _, _, rfl, hB7, ((k7.set 0 _).set 1 _), fun _ => ⟨rfl, rfl⟩⟩), (fun h h' => n6_7.out (or_ne h (by decide)) (or_ne h' (by decide)))⟩
  case hend =>
    intro d a w' hall hI
    obtain ⟨u5, u6, u9, u10, u11, u12, u13, u14, rfl, hG, f0, f1, f2, f3, f4, f5, g6, g7, n67⟩ := hI
    simp only [List.length_cons, List.length_nil] at hall
    obtain rfl := f0.out (hall 0 (by decide))
    obtain rfl := f1.out (hall 1 (by decide))
    obtain rfl := f2.out (hall 2 (by decide))
    obtain rfl := f3.out (hall 3 (by decide))
    obtain rfl := f4.out (hall 4 (by decide))
    obtain rfl := f5.out (hall 5 (by decide))
    obtain ⟨B5, x0, x1, rfl, hB5, k5, c5⟩ := g6.out (hall 6 (by decide))
    obtain ⟨rfl, rfl⟩ := c5 (hall 8 (by decide))
    obtain ⟨B6, x2, x3, rfl, hB6, k6, c6⟩ := g7.out (hall 7 (by decide))
    obtain ⟨rfl, rfl⟩ := c6 (hall 9 (by decide))
    have n56 : B5 ≠ B6 := fun e => n67.out (hall 6 (by decide)) (hall 7 (by decide)) (by rw [e])
    clear hall f0 f1 f2 f3 f4 f5 g6 g7 n67 c5 c6 H1 H2
    gi_wp2
    gi_loopg [] k (fun m wr => ColAt J p q s k ps W B5 B6 m wr)
    case atStart =>
      refine ⟨Nat.le_refl _, fun b => (ps b ∨ b = B5) ∨ b = B6, ?_, k6, .inl (.inr rfl), .inr rfl, fun b hb => .inl (.inl hb), ?_, ?_, Kp.gr hps hG, hG.size⟩
      · rw [Nat.sub_self]; exact k5
      · rintro c ((hc | rfl) | rfl)
        · exact Nat.lt_of_lt_of_le (hps c hc) hG.size
        · exact k5.lt
        · exact k6.lt
      · rw [Nat.sub_self]
        exact hJ.gr (hJ.new _ _ _ _ (hJ.new ps [] W _ h0 hB5) hB6) hG
    case round =>
      clear k5 k6
      obtain ⟨hm, qs, k5, k6, hq5, hq6, hpq, hqs, hj, hkp, hsz⟩ := hrel
      clear h0 hG
      obtain ⟨i, hi⟩ : ∃ i, i = k - gk := ⟨_, rfl⟩
      rw [← hi] at k5 hj
      have ex := ent_x p q s i
      obtain ⟨kp', ks', kq'⟩ : Bk wr bp 23 [.int .i32 p.1, .int .i32 p.2] ∧ Bk wr bs 2 [.int .i64 s] ∧ Bk wr bq 23 [.int .i32 q.1, .int .i32 q.2] := ⟨kp.same (hkp _ pp), ks.same (hkp _ pS), kq.same (hkp _ pq)⟩
      have hcl : colP p q s k i = byH (entP p q s i) (leaP p q s k i) := rfl
      have hpre : colsL p q s k i ++ [colP p q s k i] <+: colsL p q s k (k + 1) := by rw [← colsL_succ]; exact colsL_pre p q s k (by omega)
      have HY := hid0 (fun W1 (g : Gr wr W1) => hY qs (colsL p q s k i) (colP p q s k i) W1 hpq (fun b hb => Nat.lt_of_lt_of_le (hqs b hb) g.size) (hJ.gr hj g) (Nat.le_trans hsz g.size) hpre)
      have HZ := hid0 (fun W1 b8 (g : Gr wr W1) (hb8 : wr.heap.size ≤ b8) (hb8' : b8 < W1.heap.size) => hY (fun b => qs b ∨ b = b8) (colsL p q s k i) (colP p q s k i) W1 (fun b hb => .inl (hpq b hb)) (fun b hb => hb.elim (fun hb => Nat.lt_of_lt_of_le (hqs b hb) g.size) (fun e => e ▸ hb8')) (hJ.gr (hJ.new _ _ _ _ hj hb8) g) (Nat.le_trans hsz g.size) hpre)
      have HP := hid0 hpre
      have HS := hid0 (colsL_succ p q s k i)
      clear hY hpre
      obtain ⟨e0, e1⟩ := k5.two
      obtain ⟨d0, d1⟩ := k6.two
      obtain ⟨p0, p1⟩ := kp'.two
      obtain ⟨q0, q1⟩ := kq'.two
      have s0 := ks'.one
      have hol1 : (hol q s).1 = p.1 / s + k := hk
      have HK := hid0 (And.intro hk (And.intro hi (And.intro ex (And.intro hm hol1))))
      by_cases hik : i < k
      · have hlt : (entP p q s i).1 < (hol q s).1 := by rw [ex, hol1]; omega
        have hle : leaP p q s k i = befP p q s ((entP p q s i).1 + 1) := by unfold leaP; rw [if_pos hik, ex]; congr 1; omega
        have hnx : entP p q s (i + 1) = theP p q s ((entP p q s i).1 + 1) := by show theP _ _ _ _ = _; rw [ex]; congr 1; omega
        have hX : wrap32 ((entP p q s i).1 + 1) = (entP p q s i).1 + 1 := w32_eq (by
          have := ediv_32 hs q32.1
          have := ediv_32 hs p32.1
          unfold in32 at *
          omega)
        have hE := edge_any p q s ((entP p q s i).1 + 1) hp hq hs (by
          have := Int.lt_ediv_add_one_mul_self p.1 (show 0 < s by omega)
          have h2 : (p.1 / s + 1) * s ≤ ((entP p q s i).1 + 1) * s := Int.mul_le_mul_of_nonneg_right (by omega) (by omega)
          omega) (by
          have := Int.ediv_mul_le q.1 (show s ≠ 0 by omega)
          have h2 : ((entP p q s i).1 + 1) * s ≤ q.1 / s * s := Int.mul_le_mul_of_nonneg_right (by rw [hk]; omega) (by omega)
          omega)
        have E49 := hid0 hE
        have HN := hid0 hnx
        rw [hcl, hle] at HY HZ HP HS
        clear hE hk hi ex hm hol1 hle hnx hp hq hs p32 q32 hcl HY
        generalize hen : entP p q s i = en at *
        generalize hho : hol q s = ho at *
        generalize hbe : befP p q s (en.1 + 1) = be at *
        generalize hth : theP p q s (en.1 + 1) = th at *
        have HO := hid0 hho
        clear hen hho hbe hth
        have B50 := hid0 (byHeight_any en be)
        generalize byH en be = cl at *
        gi_upto_region 3 with (refine (callsIn_wide.2 (E49.out _)).mono ?_; rintro e w1 ⟨rfl, g1⟩)
        have g2 : Gr wr ((w1.alloc (.cells #[.int .i32 be.1, .int .i32 be.2] 26)).alloc (.cells #[.int .i32 th.1, .int .i32 th.2] 26)) := (g1.alloc _).alloc _
        have k7 := (Bk.new w1 26 [.int .i32 be.1, .int .i32 be.2]).alloc (.cells #[.int .i32 th.1, .int .i32 th.2] 26)
        have k8 := Bk.new (w1.alloc (.cells #[.int .i32 be.1, .int .i32 be.2] 26)) 26 [.int .i32 th.1, .int .i32 th.2]
        rw [World.size_alloc] at k8
        have h8 : wr.heap.size ≤ w1.heap.size + 1 := by have := g1.size; omega
        generalize (w1.alloc (.cells #[.int .i32 be.1, .int .i32 be.2] 26)).alloc (.cells #[.int .i32 th.1, .int .i32 th.2] 26) = W2 at *
        generalize w1.heap.size + 1 = B8 at *
        generalize w1.heap.size = B7 at *
        clear g1 E49 e0 e1 d0 d1 p0 p1 q0 q1 s0
        obtain ⟨e0, e1⟩ := (k5.gr g2).two
        obtain ⟨f0, f1⟩ := k7.two
        have hwr : wr.heap.size ≤ W2.heap.size := g2.size
        gi_wp2_with (refine (callsIn_wide.2 (B50.out _)).mono ?_; rintro e w3 ⟨rfl, g3⟩; obtain ⟨fn, tmps, assign, body, hy, hRd⟩ := yield_depth (n - 1) (HZ.out w3 B8 (g2.trans g3) h8 (Nat.lt_of_lt_of_le k8.lt g3.size)); dsimp only [kEnc] at hy)
        refine hRd.mono ?_
        clear hy hRd HZ
        have k5' := (k5.gr g2).gr g3
        have k8' := k8.gr g3
        have k6' := (k6.gr g2).gr g3
        have g4 := g2.trans g3
        clear e0 e1 f0 f1 k7 k8 k5 k6 g2 g3 kp' ks' kq'
        rintro e W4 (⟨rfl, hJ4, hk4, hf4⟩ | ⟨rfl, hJx4, hf4⟩)
        · have r5 := k5'.same (hk4 B5 (.inl hq5))
          have r6 := k6'.same (hk4 B6 (.inl hq6))
          have r8 := k8'.same (hk4 B8 (.inr rfl))
          obtain ⟨e0, e1⟩ := r5.two
          obtain ⟨f0, f1⟩ := r8.two
          have z0 := r5.frozen 0
          have z1 := r5.frozen 1
          gi_wp2
          gi_roundg (gk - 1)
          case measure => have := HK.out; omega
          case rel =>
            obtain ⟨_, hi, _, hm, _⟩ := HK.out
            have ei : k - (gk - 1) = i + 1 := by omega
            have hB5' : W.heap.size ≤ B5 := hB5
            have s4 := hf4.size
            have s3 := g4.size
            have hkp4 : Kp ps W W4 := hkp.t (fun b hb => by rw [hk4 b (.inl (hpq b hb)), g4.below.block b (hqs b (hpq b hb))])
            refine ⟨by omega, fun b => qs b ∨ b = B8, ?_, ?_, .inl hq5, .inl hq6, fun b hb => .inl (hpq b hb), ?_, ?_, ?_, ?_⟩
            · rw [ei, HN.out]; exact (r5.set 0 _).set 1 _
            · rw [HO.out]; exact (r6.other (a := ⟨B5, 0, none⟩) n56.symm _).other (a := ⟨B5, 1, none⟩) n56.symm _
            · rintro c (hc | rfl)
              · have := hqs c hc; simp; omega
              · have := r8.lt; simpa using this
            · rw [ei, HS.out]
              exact hJ.own _ _ _ _ (some B5) (hJ.own _ _ _ _ (some B5) hJ4 (grown_set _ _ _ _) (fun r e => by cases e; exact ⟨hB5, .inl (.inl hq5)⟩)) (grown_set _ _ _ _) (fun r e => by cases e; exact ⟨hB5, .inl (.inl hq5)⟩)
            · refine hkp4.t (fun b hb => ?_)
              have hne : b ≠ B5 := fun e => by have := hps b hb; omega
              rw [Below.heap_setCell _ _ _ _ hne, Below.heap_setCell _ _ _ _ hne]
            · simp; omega
        · gi_wp2
          refine bodyPost_ret (results_none rfl _ _ _) rfl ?_
          exact ⟨⟨_, rfl⟩, .inr ⟨_, HP.out, hJx4⟩⟩
      · have hik' : i = k := by omega
        have hlt : ¬ (entP p q s i).1 < (hol q s).1 := by rw [ex, hol1]; omega
        have hle : leaP p q s k i = hol q s := by unfold leaP; rw [if_neg hik]
        rw [hcl, hle] at HY HZ HP HS
        have HE := hid0 hik'
        clear hk hi ex hm hol1 hle hp hq hs p32 q32 hcl HZ hik'
        generalize hen : entP p q s i = en at *
        generalize hho : hol q s = ho at *
        clear hen hho
        have B50 := hid0 (byHeight_any en ho)
        generalize byH en ho = cl at *
        gi_wp2_with (refine (callsIn_wide.2 (B50.out _)).mono ?_; rintro e w3 ⟨rfl, g3⟩; obtain ⟨fn, tmps, assign, body, hy, hRd⟩ := yield_depth (n - 1) (HY.out w3 g3); dsimp only [kEnc] at hy)
        refine hRd.mono ?_
        clear hy hRd HY
        rintro e W4 (⟨rfl, hJ4, hk4, hf4⟩ | ⟨rfl, hJx4, hf4⟩)
        · gi_wp2
          go_end0
          exact ⟨⟨_, rfl⟩, .inl ⟨qs, by have h := HS.out; rw [HE.out] at h hJ4; rw [h]; exact hJ4, hpq⟩⟩
        · gi_wp2
          go_end0
          exact ⟨⟨_, rfl⟩, .inr ⟨_, HP.out, hJx4⟩⟩

theorem cols_seq (n : Nat) (hn : 3 ≤ n) (bp bs bq : Nat) (p q : C2) (s : Int) (k : Nat) (hp : latP p) (hq : latP q) (hs : 1 ≤ s) (hk : q.1 / s = p.1 / s + k) (p0 : Nat → Prop) (w : World)
    (kp : Bk w bp 23 [.int .i32 p.1, .int .i32 p.2]) (ks : Bk w bs 2 [.int .i64 s]) (kq : Bk w bq 23 [.int .i32 q.1, .int .i32 q.2]) (pp : p0 bp) (pS : p0 bs) (pq : p0 bq) :
    SeqO n 48 #[.pointer (some ⟨bp, 0, none⟩), .pointer (some ⟨bs, 0, none⟩), .pointer (some ⟨bq, 0, none⟩)] kEnc (colsL p q s k (k + 1)) p0 w := fun l J Jx ps W hkw hp0 hpb _ hJ _ hY h0 =>
  cols_in n hn l bp bs bq p q s k hp hq hs hk J Jx ps W (kp.same (hkw bp pp)) (ks.same (hkw bs pS)) (kq.same (hkw bq pq)) (hp0 _ pp) (hp0 _ pS) (hp0 _ pq) hpb hJ (fun p' pre x W1 h1 h2 h3 h4 h5 => hY p' pre x W1 (fun b hb => h1 b (hp0 b hb)) h2 h3 h4 h5) h0

/-- Two points, the left one first. -/
def ordP (p q : C2) : C2 × C2 := if q.1 < p.1 then (q, p) else (p, q)
def ColBox (w : World) (P Q : C2) (s : Int) (e : Ending) (w' : World) : Prop :=
  e = .returned (.func (.func 48) #[] #[.pointer (some ⟨w.heap.size, 0, none⟩), .pointer (some ⟨w.heap.size + 2, 0, none⟩), .pointer (some ⟨w.heap.size + 1, 0, none⟩)]) ∧
      Bk w' w.heap.size 23 [.int .i32 P.1, .int .i32 P.2] ∧ Bk w' (w.heap.size + 1) 23 [.int .i32 Q.1, .int .i32 Q.2] ∧ Bk w' (w.heap.size + 2) 2 [.int .i64 s] ∧ Gr w w'
set_option maxRecDepth 20000 in
set_option maxHeartbeats 2000000 in
/-- columns: the points in their order. -/
theorem columns_any (p q : C2) (s : Int) (w : World) :
    Calls Try.prog 40 #[cv p, cv q, .int .i64 s] w (ColBox w (ordP p q).1 (ordP p q).2 s) := by
  have k3 := ((Bk.new w 23 [.int .i32 p.1, .int .i32 p.2]).alloc (.cells #[.int .i32 q.1, .int .i32 q.2] 23)).alloc (.cells #[.int .i64 s] 2)
  have k4 := (Bk.new (w.alloc (.cells #[.int .i32 p.1, .int .i32 p.2] 23)) 23 [.int .i32 q.1, .int .i32 q.2]).alloc (.cells #[.int .i64 s] 2)
  have k5 := Bk.new ((w.alloc (.cells #[.int .i32 p.1, .int .i32 p.2] 23)).alloc (.cells #[.int .i32 q.1, .int .i32 q.2] 23)) 2 [.int .i64 s]
  have g : Gr w (((w.alloc (.cells #[.int .i32 p.1, .int .i32 p.2] 23)).alloc (.cells #[.int .i32 q.1, .int .i32 q.2] 23)).alloc (.cells #[.int .i64 s] 2)) := (((Gr.refl _).alloc _).alloc _).alloc _
  simp only [World.size_alloc] at k3 k4 k5
  by_cases h : q.1 < p.1
  · have e : ordP p q = (q, p) := by unfold ordP; rw [if_pos h]
    rw [e]
    clear e
    go_enter Try.func40, Try.ntmps40
    go_upto_region 1 with fail
    have hsz : w.heap.size + 1 ≠ w.heap.size := by omega
    have hsz' : w.heap.size ≠ w.heap.size + 1 := by omega
    have hs2 : w.heap.size + 1 + 1 ≠ w.heap.size := by omega
    have hs3 : w.heap.size + 1 + 1 ≠ w.heap.size + 1 := by omega
    generalize ((w.alloc (.cells #[.int .i32 p.1, .int .i32 p.2] 23)).alloc (.cells #[.int .i32 q.1, .int .i32 q.2] 23)).alloc (.cells #[.int .i64 s] 2) = W at *
    obtain ⟨a0, a1⟩ := k3.two
    obtain ⟨b0, b1⟩ := k4.two
    have z0 := k3.frozen 0
    have z1 := k3.frozen 1
    have z2 := k4.frozen 0
    have z3 := k4.frozen 1
    go_wp2
    go_ret
    refine ⟨by simp, ?_, ?_, ?_, (((g.setCell (p := ⟨w.heap.size, 0, none⟩) (Nat.le_refl _) _).setCell (p := ⟨w.heap.size, 1, none⟩) (Nat.le_refl _) _).setCell (p := ⟨w.heap.size + 1, 0, none⟩) (by simp) _).setCell (p := ⟨w.heap.size + 1, 1, none⟩) (by simp) _⟩
    · exact (((k3.set 0 _).set 1 _).other (a := ⟨w.heap.size + 1, 0, none⟩) hsz' _).other (a := ⟨w.heap.size + 1, 1, none⟩) hsz' _
    · exact (((k4.other (a := ⟨w.heap.size, 0, none⟩) hsz _).other (a := ⟨w.heap.size, 1, none⟩) hsz _).set 0 _).set 1 _
    · exact (((k5.other (a := ⟨w.heap.size, 0, none⟩) hs2 _).other (a := ⟨w.heap.size, 1, none⟩) hs2 _).other (a := ⟨w.heap.size + 1, 0, none⟩) hs3 _).other (a := ⟨w.heap.size + 1, 1, none⟩) hs3 _
  · have e : ordP p q = (p, q) := by unfold ordP; rw [if_neg h]
    rw [e]
    clear e
    go_enter Try.func40, Try.ntmps40
    go_upto_region 1 with fail
    generalize ((w.alloc (.cells #[.int .i32 p.1, .int .i32 p.2] 23)).alloc (.cells #[.int .i32 q.1, .int .i32 q.2] 23)).alloc (.cells #[.int .i64 s] 2) = W at *
    obtain ⟨a0, a1⟩ := k3.two
    obtain ⟨b0, b1⟩ := k4.two
    go_wp2
    go_ret
    exact ⟨by simp, k3, k4, k5, g⟩
end Go.Proofs.Ytmoddfikhipagaa
