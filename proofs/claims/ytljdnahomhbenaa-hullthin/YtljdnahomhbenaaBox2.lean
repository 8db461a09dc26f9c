/- Contracts of the least box around two boxes: the program's Join and the reference's. -/
import Derived.Test.YtljdnahomhbenaaBox1J
import Derived.Deep.RegionHeld3
namespace Go.Proofs.Ytljdnahomhbenaa
section
open Go.RowKit Go.Sort

/-- The least box around two. -/
def joinQ (a0 a1 a2 a3 b0 b1 b2 b3 : Int) : Int × Int × Int × Int :=
  if rightB a0 a1 a2 a3 = true then (if rightB b0 b1 b2 b3 = true then (minI a0 b0, minI a1 b1, maxI a2 b2, maxI a3 b3) else (a0, a1, a2, a3)) else (if rightB b0 b1 b2 b3 = true then (b0, b1, b2, b3) else (0, 0, 0, 0))
abbrev T8 (a0 a1 a2 a3 a4 a5 a6 a7 : Addr) (x0 x1 x2 x3 x4 x5 x6 x7 : Value) (K : Nat) (W : World) (w : World) : Prop :=
  w.cell? a0 = some x0 ∧ w.cell? a1 = some x1 ∧ w.cell? a2 = some x2 ∧ w.cell? a3 = some x3 ∧ w.cell? a4 = some x4 ∧ w.cell? a5 = some x5 ∧ w.cell? a6 = some x6 ∧ w.cell? a7 = some x7 ∧ Below K W w
theorem T8.call {a0 a1 a2 a3 a4 a5 a6 a7 : Addr} {x0 x1 x2 x3 x4 x5 x6 x7 : Value} {K : Nat} {W w w' : World} (h : T8 a0 a1 a2 a3 a4 a5 a6 a7 x0 x1 x2 x3 x4 x5 x6 x7 K W w) (hK : K ≤ W.heap.size) (g : Below w.heap.size w w') : T8 a0 a1 a2 a3 a4 a5 a6 a7 x0 x1 x2 x3 x4 x5 x6 x7 K W w' := by
  obtain ⟨h0, h1, h2, h3, h4, h5, h6, h7, hb⟩ := h
  exact ⟨below_cell h0 g, below_cell h1 g, below_cell h2 g, below_cell h3 g, below_cell h4 g, below_cell h5 g, below_cell h6 g, below_cell h7 g, hb.trans (g.mono (Nat.le_trans hK hb.size))⟩
theorem T8.set {a0 a1 a2 a3 a4 a5 a6 a7 : Addr} {x0 x1 x2 x3 x4 x5 x6 x7 : Value} {K : Nat} {W w : World} (h : T8 a0 a1 a2 a3 a4 a5 a6 a7 x0 x1 x2 x3 x4 x5 x6 x7 K W w) {p : Addr} (hp : K ≤ p.block) (h0 : a0.block < K ∧ a1.block < K ∧ a2.block < K ∧ a3.block < K ∧ a4.block < K ∧ a5.block < K ∧ a6.block < K ∧ a7.block < K) (z : Value) : T8 a0 a1 a2 a3 a4 a5 a6 a7 x0 x1 x2 x3 x4 x5 x6 x7 K W (w.setCell p z) := by
  have f : ∀ a : Addr, a.block < K → (w.setCell p z).cell? a = w.cell? a := fun a ha => World.cell?_setCell_far w p a z (by omega)
  obtain ⟨k0, k1, k2, k3, k4, k5, k6, k7, hb⟩ := h
  obtain ⟨l0, l1, l2, l3, l4, l5, l6, l7⟩ := h0
  exact ⟨(f a0 l0).trans k0, (f a1 l1).trans k1, (f a2 l2).trans k2, (f a3 l3).trans k3, (f a4 l4).trans k4, (f a5 l5).trans k5, (f a6 l6).trans k6, (f a7 l7).trans k7, hb.setCell hp z⟩

theorem Try.info28 : (Try.prog.info? 28).map (fun i => (i.zero, i.size, i.bytes)) = some (some (.agg #[.int .i32 0, .int .i32 0]), 2, 8) := by kernel_rfl
theorem BoxesAre.mono {W W' : World} {K b : Nat} {a0 a1 a2 a3 b0 b1 b2 b3 : Int} (h : BoxesAre W b a0 a1 a2 a3 b0 b1 b2 b3) (g : Below K W W') (hk : b + 1 < K) : BoxesAre W' b a0 a1 a2 a3 b0 b1 b2 b3 :=
  have f : ∀ p o v, p < K → W.cell? ⟨p, o, none⟩ = some v → W'.cell? ⟨p, o, none⟩ = some v := fun p o v hp h => (g.cell (p := ⟨p, o, none⟩) hp).trans h
  ⟨f _ _ _ (by omega) h.c0, f _ _ _ (by omega) h.c1, f _ _ _ (by omega) h.c2, f _ _ _ (by omega) h.c3, f _ _ _ hk h.c4, f _ _ _ hk h.c5, f _ _ _ hk h.c6, f _ _ _ hk h.c7⟩
theorem own2_gr {w w' : World} {base e k s : Nat} {v : Value} {xs : List Value} (h : w.ownsRow base e s v k xs) (g : Gr w w') : w'.ownsRow base e s v k xs := by
  obtain ⟨hl, h | ⟨b, cap, cur, rfl, h1, h2, h3⟩⟩ := h
  · exact ⟨hl, .inl h⟩
  · exact ⟨hl, .inr ⟨b, cap, cur, rfl, h1, by rw [g.below.block b (lt_of_block h2)]; exact h2, h3⟩⟩
theorem own2_shape {w : World} {base e k s : Nat} {v : Value} {xs : List Value} (h : w.ownsRow base e s v (k + 1) xs) : ∃ g cap, v = .slice (some ⟨g, 0, none⟩) (k + 1) cap ∧ k + 1 ≤ cap ∧ base ≤ g := by
  rcases h.2 with ⟨_, hn⟩ | ⟨g, cap, cur, rfl, hb, _, hc, _⟩
  · omega
  · exact ⟨g, cap, rfl, hc, hb⟩
/-- The points that a row of the call's own holds. -/
def flat : List (Int × Int) → List Value
  | [] => []
  | p :: r => .int .i32 p.1 :: .int .i32 p.2 :: flat r
theorem flat_at (l : List (Int × Int)) (i : Nat) (h : i < l.length) : (flat l)[i * 2]? = some (.int .i32 (l.getD i (0, 0)).1) ∧ (flat l)[i * 2 + 1]? = some (.int .i32 (l.getD i (0, 0)).2) := by
  induction l generalizing i with
  | nil => simp at h
  | cons p r ih =>
    cases i with
    | zero => simp [flat]
    | succ j =>
      have := ih j (by simpa using h)
      rw [show (j + 1) * 2 = j * 2 + 1 + 1 by omega]
      simpa [flat] using this
theorem flat_len (l : List (Int × Int)) : (flat l).length = l.length * 2 := by
  induction l with
  | nil => rfl
  | cons p r ih => simp [flat, ih]; omega
theorem flat_append (l r : List (Int × Int)) : flat (l ++ r) = flat l ++ flat r := by
  induction l with
  | nil => rfl
  | cons p t ih => simp [flat, ih]
theorem Pts.of_own {w : World} {base : Nat} {g cap : Nat} {l : List (Int × Int)} (h : w.ownsRow base 28 2 (.slice (some ⟨g, 0, none⟩) l.length cap) l.length (flat l)) : Pts w (some ⟨g, 0, none⟩) l := fun i hi => by
  obtain ⟨f0, f1⟩ := flat_at l i hi
  have c0 := h.cells (g := g) rfl _ _ f0
  have c1 := h.cells (g := g) rfl _ _ f1
  have e : ∀ k, (⟨g, 0, none⟩ : Addr).add k = ⟨g, 0 + k, none⟩ := fun k => by unfold Addr.add; split <;> simp_all
  rw [e] at c0 c1
  exact ⟨g, 0, rfl, c0, by rw [← c1]; rfl⟩
theorem two_cells (w : World) (x0 x1 x2 x3 : Value) : ∀ (j : Nat) (u : Value), [x0, x1, x2, x3][j]? = some u → (w.alloc (.cells #[x0, x1, x2, x3] 28)).cell? ((⟨w.heap.size, 0, none⟩ : Addr).add j) = some u := by
  intro j u hj
  match j, hj with
  | 0, hj => simp at hj; subst hj; simp [Addr.add]
  | 1, hj => simp at hj; subst hj; simp [Addr.add]
  | 2, hj => simp at hj; subst hj; simp [Addr.add]
  | 3, hj => simp at hj; subst hj; simp [Addr.add]
theorem right_le {a b c d : Int} (h : rightB a b c d = true) : a ≤ c ∧ b ≤ d := by unfold rightB at h; simpa using h
theorem bnd_one {a0 a1 a2 a3 : Int} (h : rightB a0 a1 a2 a3 = true) : bndL [(a0, a1), (a2, a3)] = (a0, a1, a2, a3) := by
  have := right_le h
  show (minI a0 a2, minI a1 a3, maxI a0 a2, maxI a1 a3) = _
  unfold minI maxI
  rw [if_pos this.1, if_pos this.2, if_pos this.1, if_pos this.2]
theorem bnd_both {a0 a1 a2 a3 b0 b1 b2 b3 : Int} (h : rightB a0 a1 a2 a3 = true) (k : rightB b0 b1 b2 b3 = true) : bndL [(a0, a1), (a2, a3), (b0, b1), (b2, b3)] = (minI a0 b0, minI a1 b1, maxI a2 b2, maxI a3 b3) := by
  have := right_le h
  have := right_le k
  show (minI (minI (minI a0 a2) b0) b2, minI (minI (minI a1 a3) b1) b3, maxI (maxI (maxI a0 a2) b0) b2, maxI (maxI (maxI a1 a3) b1) b3) = _
  have e : ∀ x y u v : Int, x ≤ y → u ≤ v → minI (minI (minI x y) u) v = minI x u ∧ maxI (maxI (maxI x y) u) v = maxI y v := by
    intro x y u v p q
    unfold minI maxI
    constructor <;> (repeat' split) <;> omega
  rw [(e a0 a2 b0 b2 (by omega) (by omega)).1, (e a0 a2 b0 b2 (by omega) (by omega)).2, (e a1 a3 b1 b3 (by omega) (by omega)).1, (e a1 a3 b1 b3 (by omega) (by omega)).2]
end
end Go.Proofs.Ytljdnahomhbenaa
