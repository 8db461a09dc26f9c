/- Contracts of the program's Meet and Join, and of the reference's Right, Has, Meet. The contract of the reference's box around points: for every list what Bounds answers; the memory that was there is as it was. Contracts of the least box around two boxes: the program's Join and the reference's. Lists of points: a copy of elements of several cells; the law's own 'same'. Lists of points: the law's own 'Left' and 'Lent'. -/
import Derived.Test.YtgcofpfjdplopaaGreatGcdJ
import Derived.Test.YtgcofpfjdplopaaGreatBnd
import Derived.Deep.RegionHeld3
import Derived.Laws.CopyOwn
import Derived.Laws.AppendOwnNone
namespace Go.Proofs.YtgcofpfjdplopaaGreat
section
open Go.RowKit Go.Sort

/-- Eight cells of two boxes. -/
structure BoxesAre (W : World) (b : Nat) (a0 a1 a2 a3 b0 b1 b2 b3 : Int) : Prop where
  c0 : W.cell? ⟨b, 0, none⟩ = some (.int .i32 a0)
  c1 : W.cell? ⟨b, 1, none⟩ = some (.int .i32 a1)
  c2 : W.cell? ⟨b, 2, none⟩ = some (.int .i32 a2)
  c3 : W.cell? ⟨b, 3, none⟩ = some (.int .i32 a3)
  c4 : W.cell? ⟨b + 1, 0, none⟩ = some (.int .i32 b0)
  c5 : W.cell? ⟨b + 1, 1, none⟩ = some (.int .i32 b1)
  c6 : W.cell? ⟨b + 1, 2, none⟩ = some (.int .i32 b2)
  c7 : W.cell? ⟨b + 1, 3, none⟩ = some (.int .i32 b3)
theorem BoxesAre.gr {W W' : World} {b : Nat} {a0 a1 a2 a3 b0 b1 b2 b3 : Int} (h : BoxesAre W b a0 a1 a2 a3 b0 b1 b2 b3) (g : Below W.heap.size W W') : BoxesAre W' b a0 a1 a2 a3 b0 b1 b2 b3 :=
  ⟨below_cell h.c0 g, below_cell h.c1 g, below_cell h.c2 g, below_cell h.c3 g, below_cell h.c4 g, below_cell h.c5 g, below_cell h.c6 g, below_cell h.c7 g⟩
theorem BoxesAre.new (w : World) (a0 a1 a2 a3 b0 b1 b2 b3 : Int) : BoxesAre ((w.alloc (.cells #[.int .i32 a0, .int .i32 a1, .int .i32 a2, .int .i32 a3] 35)).alloc (.cells #[.int .i32 b0, .int .i32 b1, .int .i32 b2, .int .i32 b3] 35)) w.heap.size a0 a1 a2 a3 b0 b1 b2 b3 :=
  ⟨by go_simp, by go_simp, by go_simp, by go_simp, by go_simp, by go_simp, by go_simp, by go_simp⟩

/-- Whether two boxes meet. -/
def meetB (a0 a1 a2 a3 b0 b1 b2 b3 : Int) : Bool := rightB (maxI a0 b0) (maxI a1 b1) (minI a2 b2) (minI a3 b3)
theorem meet_apart (a0 a1 a2 a3 b0 b1 b2 b3 : Int) : meetB a0 a1 a2 a3 b0 b1 b2 b3 = (rightB a0 a1 a2 a3 && rightB b0 b1 b2 b3 && !(decide (a2 < b0) || decide (b2 < a0) || decide (a3 < b1) || decide (b3 < a1))) := by
  unfold meetB rightB maxI minI
  grind
end
section
open Go.RowKit Go.Sort

theorem bndL_nil : bndL [] = (0, 0, 0, 0) := rfl
theorem bndL_one (l : List (Int × Int)) (h : 0 < l.length) : bndL (l.take (0 + 1)) = ((l.getD 0 (0, 0)).1, (l.getD 0 (0, 0)).2, (l.getD 0 (0, 0)).1, (l.getD 0 (0, 0)).2) := by
  cases l with
  | nil => simp at h
  | cons p r => rfl
theorem bndL_step (l : List (Int × Int)) (k : Nat) (h0 : 0 < k) (h : k < l.length) : bndL (l.take (k + 1)) = bndS (bndL (l.take k)) (l.getD k (0, 0)) := by
  obtain ⟨j, rfl⟩ : ∃ j, k = j + 1 := ⟨k - 1, by omega⟩
  exact bndL_take l j h
end
section
open Go.RowKit Go.Sort

/-- The least box around two. -/
def joinQ (a0 a1 a2 a3 b0 b1 b2 b3 : Int) : Int × Int × Int × Int :=
  if rightB a0 a1 a2 a3 = true then (if rightB b0 b1 b2 b3 = true then (minI a0 b0, minI a1 b1, maxI a2 b2, maxI a3 b3) else (a0, a1, a2, a3)) else (if rightB b0 b1 b2 b3 = true then (b0, b1, b2, b3) else (0, 0, 0, 0))
abbrev T8 (a0 a1 a2 a3 a4 a5 a6 a7 : Addr) (x0 x1 x2 x3 x4 x5 x6 x7 : Value) (K : Nat) (W : World) (w : World) : Prop :=
  w.cell? a0 = some x0 ∧ w.cell? a1 = some x1 ∧ w.cell? a2 = some x2 ∧ w.cell? a3 = some x3 ∧ w.cell? a4 = some x4 ∧ w.cell? a5 = some x5 ∧ w.cell? a6 = some x6 ∧ w.cell? a7 = some x7 ∧ Below K W w
theorem T8.call {a0 a1 a2 a3 a4 a5 a6 a7 : Addr} {x0 x1 x2 x3 x4 x5 x6 x7 : Value} {K : Nat} {W w w' : World} (h : T8 a0 a1 a2 a3 a4 a5 a6 a7 x0 x1 x2 x3 x4 x5 x6 x7 K W w) (hK : K ≤ W.heap.size) (g : Below w.heap.size w w') : T8 a0 a1 a2 a3 a4 a5 a6 a7 x0 x1 x2 x3 x4 x5 x6 x7 K W w' := by
  obtain ⟨h0, h1, h2, h3, h4, h5, h6, h7, hb⟩ := h
  exact ⟨below_cell h0 g, below_cell h1 g, below_cell h2 g, below_cell h3 g, below_cell h4 g, below_cell h5 g, below_cell h6 g, below_cell h7 g, hb.trans (g.mono (Nat.le_trans hK hb.size))⟩
theorem T8.set {a0 a1 a2 a3 a4 a5 a6 a7 : Addr} {x0 x1 x2 x3 x4 x5 x6 x7 : Value} {K : Nat} {W w : World} (h : T8 a0 a1 a2 a3 a4 a5 a6 a7 x0 x1 x2 x3 x4 x5 x6 x7 K W w) {p : Addr} (hp : K ≤ p.block) (h0 : a0.block < K ∧ a1.block < K ∧ a2.block < K ∧ a3.block < K ∧ a4.block < K ∧ a5.block < K ∧ a6.block < K ∧ a7.block < K) (z : Value) : T8 a0 a1 a2 a3 a4 a5 a6 a7 x0 x1 x2 x3 x4 x5 x6 x7 K W (w.setCell p z) := by
  have f : ∀ a : Addr, a.block < K → (w.setCell p z).cell? a = w.cell? a := fun a ha => World.cell?_setCell_far w p a z (by omega)
  obtain ⟨k0, k1, k2, k3, k4, k5, k6, k7, hb⟩ := h
  obtain ⟨l0, l1, l2, l3, l4, l5, l6, l7⟩ := h0
  exact ⟨(f a0 l0).trans k0, (f a1 l1).trans k1, (f a2 l2).trans k2, (f a3 l3).trans k3, (f a4 l4).trans k4, (f a5 l5).trans k5, (f a6 l6).trans k6, (f a7 l7).trans k7, hb.setCell hp z⟩

theorem Tryz.info28b : (Tryz.prog.info? 28).map (fun i => (i.zero, i.size, i.bytes)) = some (some (.agg #[.int .i32 0, .int .i32 0]), 2, 8) := by kernel_rfl
theorem BoxesAre.mono {W W' : World} {K b : Nat} {a0 a1 a2 a3 b0 b1 b2 b3 : Int} (h : BoxesAre W b a0 a1 a2 a3 b0 b1 b2 b3) (g : Below K W W') (hk : b + 1 < K) : BoxesAre W' b a0 a1 a2 a3 b0 b1 b2 b3 :=
  have f : ∀ p o v, p < K → W.cell? ⟨p, o, none⟩ = some v → W'.cell? ⟨p, o, none⟩ = some v := fun p o v hp h => (g.cell (p := ⟨p, o, none⟩) hp).trans h
  ⟨f _ _ _ (by omega) h.c0, f _ _ _ (by omega) h.c1, f _ _ _ (by omega) h.c2, f _ _ _ (by omega) h.c3, f _ _ _ hk h.c4, f _ _ _ hk h.c5, f _ _ _ hk h.c6, f _ _ _ hk h.c7⟩
theorem own2_gr {w w' : World} {base e k s : Nat} {v : Value} {xs : List Value} (h : w.ownsRow base e s v k xs) (g : Gr w w') : w'.ownsRow base e s v k xs := by
  obtain ⟨hl, h | ⟨b, cap, cur, rfl, h1, h2, h3⟩⟩ := h
  · exact ⟨hl, .inl h⟩
  · exact ⟨hl, .inr ⟨b, cap, cur, rfl, h1, by rw [g.below.block b (lt_of_block h2)]; exact h2, h3⟩⟩
theorem own2_shape {w : World} {base e k s : Nat} {v : Value} {xs : List Value} (h : w.ownsRow base e s v (k + 1) xs) : ∃ g cap, v = .slice (some ⟨g, 0, none⟩) (k + 1) cap ∧ k + 1 ≤ cap ∧ base ≤ g := by
  rcases h.2 with ⟨_, hn⟩ | ⟨g, cap, cur, rfl, hb, _, hc, _⟩
  · omega
  · exact ⟨g, cap, rfl, hc, hb⟩
/-- The points that a row of the call's own holds. -/
def flat : List (Int × Int) → List Value
  | [] => []
  | p :: r => .int .i32 p.1 :: .int .i32 p.2 :: flat r
theorem flat_at (l : List (Int × Int)) (i : Nat) (h : i < l.length) : (flat l)[i * 2]? = some (.int .i32 (l.getD i (0, 0)).1) ∧ (flat l)[i * 2 + 1]? = some (.int .i32 (l.getD i (0, 0)).2) := by
  induction l generalizing i with
  | nil => simp at h
  | cons p r ih =>
    cases i with
    | zero => simp [flat]
    | succ j =>
      have := ih j (by simpa using h)
      rw [show (j + 1) * 2 = j * 2 + 1 + 1 by omega]
      simpa [flat] using this
theorem flat_len (l : List (Int × Int)) : (flat l).length = l.length * 2 := by
  induction l with
  | nil => rfl
  | cons p r ih => simp [flat, ih]; omega
theorem flat_append (l r : List (Int × Int)) : flat (l ++ r) = flat l ++ flat r := by
  induction l with
  | nil => rfl
  | cons p t ih => simp [flat, ih]
theorem Pts.of_own {w : World} {base : Nat} {g cap : Nat} {l : List (Int × Int)} (h : w.ownsRow base 28 2 (.slice (some ⟨g, 0, none⟩) l.length cap) l.length (flat l)) : Pts w (some ⟨g, 0, none⟩) l := fun i hi => by
  obtain ⟨f0, f1⟩ := flat_at l i hi
  have c0 := h.cells (g := g) rfl _ _ f0
  have c1 := h.cells (g := g) rfl _ _ f1
  have e : ∀ k, (⟨g, 0, none⟩ : Addr).add k = ⟨g, 0 + k, none⟩ := fun k => by unfold Addr.add; split <;> simp_all
  rw [e] at c0 c1
  exact ⟨g, 0, rfl, c0, by rw [← c1]; rfl⟩
theorem two_cells (w : World) (x0 x1 x2 x3 : Value) : ∀ (j : Nat) (u : Value), [x0, x1, x2, x3][j]? = some u → (w.alloc (.cells #[x0, x1, x2, x3] 28)).cell? ((⟨w.heap.size, 0, none⟩ : Addr).add j) = some u := by
  intro j u hj
  match j, hj with
  | 0, hj => simp at hj; subst hj; simp [Addr.add]
  | 1, hj => simp at hj; subst hj; simp [Addr.add]
  | 2, hj => simp at hj; subst hj; simp [Addr.add]
  | 3, hj => simp at hj; subst hj; simp [Addr.add]
theorem right_le {a b c d : Int} (h : rightB a b c d = true) : a ≤ c ∧ b ≤ d := by unfold rightB at h; simpa using h
theorem bnd_one {a0 a1 a2 a3 : Int} (h : rightB a0 a1 a2 a3 = true) : bndL [(a0, a1), (a2, a3)] = (a0, a1, a2, a3) := by
  have := right_le h
  show (minI a0 a2, minI a1 a3, maxI a0 a2, maxI a1 a3) = _
  unfold minI maxI
  rw [if_pos this.1, if_pos this.2, if_pos this.1, if_pos this.2]
theorem bnd_both {a0 a1 a2 a3 b0 b1 b2 b3 : Int} (h : rightB a0 a1 a2 a3 = true) (k : rightB b0 b1 b2 b3 = true) : bndL [(a0, a1), (a2, a3), (b0, b1), (b2, b3)] = (minI a0 b0, minI a1 b1, maxI a2 b2, maxI a3 b3) := by
  have := right_le h
  have := right_le k
  show (minI (minI (minI a0 a2) b0) b2, minI (minI (minI a1 a3) b1) b3, maxI (maxI (maxI a0 a2) b0) b2, maxI (maxI (maxI a1 a3) b1) b3) = _
  have e : ∀ x y u v : Int, x ≤ y → u ≤ v → minI (minI (minI x y) u) v = minI x u ∧ maxI (maxI (maxI x y) u) v = maxI y v := by
    intro x y u v p q
    unfold minI maxI
    constructor <;> (repeat' split) <;> omega
  rw [(e a0 a2 b0 b2 (by omega) (by omega)).1, (e a0 a2 b0 b2 (by omega) (by omega)).2, (e a1 a3 b1 b3 (by omega) (by omega)).1, (e a1 a3 b1 b3 (by omega) (by omega)).2]
end
section
open Go.RowKit Go.Sort

/-- A copy of n elements of 'size' cells each into a row. -/
theorem run_copyK {P : Program} (w : World) (dT sT ty elem : TypeId) (g o dLen dCap : Nat) (a : Addr) (sLen sCap : Nat) (cur : Array Value) (t : TypeId) (cs : List Value) (size n : Nat)
    (hu : P.underlying dT = some (.slice elem)) (hs : (P.info? elem).map (·.size) = some size)
    (hg : w.heap[g]? = some (.cells cur t (0, 0))) (hn : Nat.min sLen dLen = n) (hl : n * size = cs.length)
    (hsrc : ∀ j v, cs[j]? = some v → w.cell? (a.add j) = some v) (hfit : o + cs.length ≤ cur.size) (h1 : ∀ v ∈ cs, v.oneCell' = true) :
    (Builtin.copy_ #[dT, sT] ty #[.slice (some ⟨g, o, none⟩) dLen dCap, .slice (some a) sLen sCap]).run P w =
      .ok (goInt n) (w.setRow g (cur.toList.take o ++ cs ++ cur.toList.drop (o + cs.length)).toArray) := by
  have hll := run_loadCells_list (P := P) w a cs hsrc
  have hst := run_storeCells_at P g o t cs 0 cur w hg (by simpa using hfit) h1
  cases hq : P.info? elem with
  | none => simp [hq] at hs
  | some i =>
    have hi : i.size = size := by simpa [hq] using hs
    simp [Builtin.copy_, run_underlying hu, Builtin.lenOf, Builtin.firstCells, sizeOf, typeInfo, hq, hi, hn, hl, hll, hst]
theorem wpList_copyK {P : Program} {w : World} {ops : Array Oper} {rest : List Oper} {o : Oper} {a : Act} {Q : Exit → Act → World → Prop} (hgd : o.guard = none) (d s : Operand) (dT sT : TypeId)
    (ho : o.op = .call { callee := .builtin .copy, args := #[d, s], argTypes := #[dT, sT] }) (elem : TypeId) (size : Nat) (hu : P.underlying dT = some (.slice elem)) (hsz : (P.info? elem).map (·.size) = some size)
    (g off dLen dCap : Nat) (ad : Addr) (sLen sCap : Nat) (hd : a.eval d = .slice (some ⟨g, off, none⟩) dLen dCap) (hs : a.eval s = .slice (some ad) sLen sCap)
    (cur : Array Value) (t : TypeId) (hg : w.heap[g]? = some (.cells cur t (0, 0))) (cs : List Value) (n : Nat) (hn : Nat.min sLen dLen = n) (hl : n * size = cs.length)
    (hsrc : ∀ j v, cs[j]? = some v → w.cell? (ad.add j) = some v) (hfit : off + cs.length ≤ cur.size) (h1 : ∀ v ∈ cs, v.oneCell' = true)
    (h : wpList P ops Q rest (a.put o.dst (goInt n)) (w.setRow g (cur.toList.take off ++ (cs ++ cur.toList.drop (off + cs.length))).toArray)) : wpList P ops Q (o :: rest) a w := by
  refine wpList_plain hgd fun K hK => ?_
  have hrun := run_copyK (P := P) w dT sT o.type elem g off dLen dCap ad sLen sCap cur t cs size n hu hsz hg hn hl hsrc hfit h1
  unfold Oper.wp
  simp [execOp, ho, resolve, invoke, builtin, hd, hs, hrun, Result.andThen]
  exact hK _ _ h
end
section
open Go.RowKit Go.Sort

def marks (k : Nat) : List (Int × Int) := List.replicate k (77, -77)
theorem marks_len (k : Nat) : (marks k).length = k := by simp [marks]
theorem Pts.left {w : World} {ao : Option Addr} {l r : List (Int × Int)} (h : Pts w ao (l ++ r)) : Pts w ao l := fun i hi => by
  obtain ⟨b, off, e, c0, c1⟩ := h i (by simp; omega)
  have e2 : (l ++ r).getD i (0, 0) = l.getD i (0, 0) := by simp [List.getD, List.getElem?_append_left hi]
  rw [e2] at c0 c1
  exact ⟨b, off, e, c0, c1⟩
theorem marks_at (l : List (Int × Int)) (k i : Nat) (h : i < k) : (l ++ marks k).getD (l.length + i) (0, 0) = (77, -77) := by
  simp [marks, List.getD, h]

theorem marks_succ (k : Nat) : marks (k + 1) = marks k ++ [(77, -77)] := List.replicate_succ'
theorem one_cells (w : World) (x0 x1 : Value) : ∀ (j : Nat) (u : Value), [x0, x1][j]? = some u → (w.alloc (.cells #[x0, x1] 28)).cell? ((⟨w.heap.size, 0, none⟩ : Addr).add j) = some u := by
  intro j u hj
  match j, hj with
  | 0, hj => simp at hj; subst hj; simp [Addr.add]
  | 1, hj => simp at hj; subst hj; simp [Addr.add]
theorem flat_one (l : List (Int × Int)) (p : Int × Int) : flat (l ++ [p]) = flat l ++ [.int .i32 p.1, .int .i32 p.2] := by rw [flat_append]; rfl
theorem flat_cell (l : List (Int × Int)) : ∀ u ∈ flat l, u.oneCell' = true := by
  induction l with
  | nil => simp [flat]
  | cons p r ih =>
    intro u hu
    simp only [flat, List.mem_cons] at hu
    rcases hu with rfl | rfl | hu
    · rfl
    · rfl
    · exact ih u hu
/-- What a slice of points holds, cell by cell. -/
theorem Pts.cells {w : World} {b off : Nat} {l : List (Int × Int)} (h : Pts w (some ⟨b, off, none⟩) l) : ∀ j u, (flat l)[j]? = some u → w.cell? ((⟨b, off, none⟩ : Addr).add j) = some u := by
  intro j u hj
  have hlen : j < l.length * 2 := by
    rw [← flat_len]
    exact (List.getElem?_eq_some_iff.mp hj).1
  obtain ⟨b', off', e, c0, c1⟩ := h (j / 2) (by omega)
  simp only [Option.some.injEq, Addr.mk.injEq] at e
  obtain ⟨rfl, rfl, _⟩ := e
  obtain ⟨f0, f1⟩ := flat_at l (j / 2) (by omega)
  have ea : (⟨b, off, none⟩ : Addr).add j = ⟨b, off + j, none⟩ := by unfold Addr.add; split <;> simp_all
  rw [ea]
  rcases Nat.mod_two_eq_zero_or_one j with q | q
  · have e : j / 2 * 2 = j := by omega
    rw [e] at c0 f0
    rw [hj] at f0
    rw [c0, ← f0]
  · have e : j / 2 * 2 + 1 = j := by omega
    rw [Nat.add_assoc, e] at c1
    rw [e, hj] at f1
    rw [c1, ← f1]

theorem Pts.cellsA {w : World} {a : Addr} {l : List (Int × Int)} (h : Pts w (some a) l) : ∀ j u, (flat l)[j]? = some u → w.cell? (a.add j) = some u := by
  intro j u hj
  have hlen : j < l.length * 2 := by
    rw [← flat_len]
    exact (List.getElem?_eq_some_iff.mp hj).1
  obtain ⟨b, off, e, _⟩ := h 0 (by omega)
  simp only [Option.some.injEq] at e
  subst e
  exact Pts.cells h j u hj
end
end Go.Proofs.YtgcofpfjdplopaaGreat
