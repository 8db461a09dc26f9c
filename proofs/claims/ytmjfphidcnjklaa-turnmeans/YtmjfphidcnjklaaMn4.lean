/- The law TurnMeans: its rows, and what its two appends leave. -/
import Derived.Test.YtmjfphidcnjklaaMn2
import Derived.Test.YtmjfphidcnjklaaMn3
import Derived.OwnWalk
import Derived.WalkMore
set_option linter.unusedSimpArgs false
namespace Go.Proofs.Ytmjfphidcnjklaa
open Go.RowKit Go.Sort Ieee

def cxs (l : List (Nat × Nat)) : List Value := l.map fun p => .complex .f64 p.1 p.2
def nms : List (Nat × Nat) → List Value
  | [] => []
  | p :: r => .float .f64 p.1 :: .float .f64 p.2 :: nms r
theorem nms_app (a b : List (Nat × Nat)) : nms (a ++ b) = nms a ++ nms b := by
  induction a with
  | nil => rfl
  | cons p r ih => simp [nms, ih]
theorem nms_at (l : List (Nat × Nat)) : ∀ i, i < l.length → (nms l)[i * 2]? = some (.float .f64 (l.getD i (0, 0)).1) ∧ (nms l)[i * 2 + 1]? = some (.float .f64 (l.getD i (0, 0)).2) := by
  induction l with
  | nil => intro i hi; simp at hi
  | cons p r ih =>
    intro i hi
    cases i with
    | zero => exact ⟨rfl, rfl⟩
    | succ i =>
      obtain ⟨a, b⟩ := ih i (by simpa using hi)
      rw [show (i + 1) * 2 = i * 2 + 1 + 1 from by omega]
      simpa [nms] using ⟨a, b⟩
/-- The numbers that the first k pairs of words are. -/
def prs (z : List Nat) (k : Nat) : List (Nat × Nat) := (List.range k).map fun i => (z.getD (2 * i) 0, z.getD (2 * i + 1) 0)
theorem prs_len (z : List Nat) (k : Nat) : (prs z k).length = k := by simp [prs]
theorem prs_succ (z : List Nat) (k : Nat) : prs z (k + 1) = prs z k ++ [(z.getD (2 * k) 0, z.getD (2 * k + 1) 0)] := by simp [prs, List.range_succ]
theorem prs_ok {z : List Nat} (h : ∀ i, z.getD i 0 < 18446744073709551616) (k : Nat) : OkC (prs z k) := fun i => by
  by_cases c : i < k
  · have : (prs z k).getD i (0, 0) = (z.getD (2 * i) 0, z.getD (2 * i + 1) 0) := by simp [prs, List.getD, c]
    rw [this]
    exact ⟨h _, h _⟩
  · have : (prs z k).getD i (0, 0) = (0, 0) := by rw [List.getD_eq_getElem?_getD, List.getElem?_eq_none (by rw [prs_len]; omega)]; rfl
    rw [this]
    exact ⟨by decide, by decide⟩
theorem one_cell1 (w : World) (d : Value) (t : TypeId) : ∀ (j : Nat) (u : Value), [d][j]? = some u → (w.alloc (.cells #[d] t)).cell? ((⟨w.heap.size, 0, none⟩ : Addr).add j) = some u := by
  intro j u hj
  match j, hj with
  | 0, hj => simp at hj; subst hj; simp [Addr.add]
theorem one_cell2 (w : World) (d e : Value) (t : TypeId) : ∀ (j : Nat) (u : Value), [d, e][j]? = some u → (w.alloc (.cells #[d, e] t)).cell? ((⟨w.heap.size, 0, none⟩ : Addr).add j) = some u := by
  intro j u hj
  match j, hj with
  | 0, hj => simp at hj; subst hj; simp [Addr.add]
  | 1, hj => simp at hj; subst hj; simp [Addr.add]
theorem Try.info26 : (Try.prog.info? 26).map (fun i => (i.zero, i.size, i.bytes)) = some (some (.complex .f64 0 0), 1, 16) := by kernel_rfl
theorem Try.info33 : (Try.prog.info? 33).map (fun i => (i.zero, i.size, i.bytes)) = some (some (.agg #[.float .f64 0, .float .f64 0]), 2, 16) := by kernel_rfl
theorem below_grown {w w' : World} (h : Below w.heap.size w w') : w.grownBy w' none := ⟨h.os, h.tape, h.output, h.size, fun k hk _ => h.block k hk⟩
theorem row_gr {B : Nat} {e : TypeId} {k : Nat} {v : Value} {n : Nat} {xs : List Value} {w w' : World} (h : w.ownsRow B e k v n xs) (hb : Gr w w') : w'.ownsRow B e k v n xs :=
  h.kept (below_grown hb.below) (by cases v.ownBlock <;> simp)
theorem rows_ne {w : World} {B B' e e' s s' n n' : Nat} {v v' : Value} {xs xs' : List Value} (h : w.ownsRow B e s v n xs) (h' : w.ownsRow B' e' s' v' n' xs') (hne : e ≠ e') : v.ownBlock = none ∨ v.ownBlock ≠ v'.ownBlock := by
  rcases h.2 with ⟨rfl, _⟩ | ⟨g, cap, cur, rfl, _, hg, _⟩
  · exact .inl rfl
  · right
    rcases h'.2 with ⟨rfl, _⟩ | ⟨b, c, cur', rfl, _, hb, _⟩
    · simp [Value.ownBlock]
    · intro q
      simp only [Value.ownBlock, Option.some.injEq] at q
      subst q
      rw [hg] at hb
      simp only [Option.some.injEq, Obj.cells.injEq] at hb
      exact hne hb.2.1
/-- Both rows, k numbers long. -/
structure Rws (W : World) (base : Nat) (v3 v4 : Value) (l : List (Nat × Nat)) (w : World) : Prop where
  a : w.ownsRow base 26 1 v3 l.length (cxs l)
  b : w.ownsRow base 33 2 v4 l.length (nms l)
  c : Below base W w
  s : base ≤ w.heap.size
theorem Rws.gr {W : World} {base : Nat} {v3 v4 : Value} {l : List (Nat × Nat)} {w w' : World} (h : Rws W base v3 v4 l w) (g : Gr w w') : Rws W base v3 v4 l w' :=
  ⟨row_gr h.a g, row_gr h.b g, h.c.trans (g.below.mono h.s), Nat.le_trans h.s g.size⟩
/-- The bits that came in. -/
def Us (w : World) (so : Option Addr) (z : List Nat) : Prop := ∀ i, i < z.length → ∃ b off, so = some ⟨b, off, none⟩ ∧ w.cell? ⟨b, off + i, none⟩ = some (.int .u64 ((z.getD i 0 : Nat) : Int))

theorem wrapEq (x : Int) : IntKind.i64.wrap x = wrap64 x := by rw [IntKind.wrap_i64]; unfold wrap64; omega
theorem undrew {w w' : World} {r : Option Nat} (h : w.drew.grownBy w' r) : w.grownBy w' r := ⟨h.os, h.tape, h.output, h.size, h.block⟩
set_option maxRecDepth 20000 in
theorem wq {k p q n : Nat} (hp : p = 2 * k) (hq : q = 2 * k + 1) (h : k < n / 2) (hn : n ≤ 17592186043904) : wrap64 ((p : Int) + 1) = (q : Int) ∧ IntKind.i64.wrap ((p : Int) + 1) = (q : Int) ∧ p < n ∧ q < n := by
  subst hp hq
  have w1 : wrap64 (((2 * k : Nat) : Int) + 1) = ((2 * k + 1 : Nat) : Int) := by unfold wrap64; omega
  exact ⟨w1, (wrapEq _).trans w1, by omega, by omega⟩
abbrev C2 (a0 a1 : Addr) (x y : Value) (w : World) : Prop := w.cell? a0 = some x ∧ w.cell? a1 = some y
theorem C2.gr {a0 a1 : Addr} {x y : Value} {w w' : World} (h : C2 a0 a1 x y w) (g : Gr w w') : C2 a0 a1 x y w' := ⟨below_cell h.1 g.below, below_cell h.2 g.below⟩
theorem C2.grown {a0 a1 : Addr} {x y : Value} {w w' : World} {row : Option Nat} (h : C2 a0 a1 x y w) (g : w.grownBy w' row) (h0 : some a0.block ≠ row) (h1 : some a1.block ≠ row) : C2 a0 a1 x y w' :=
  ⟨by rw [World.cell?_of_block (g.block a0.block (World.block_lt_of_cell? w a0 h.1) h0)]; exact h.1, by rw [World.cell?_of_block (g.block a1.block (World.block_lt_of_cell? w a1 h.2) h1)]; exact h.2⟩
set_option maxRecDepth 20000 in
theorem wq' {p q n : Nat} (hp : p = 2 * (n / 2)) (hq : q = 2 * (n / 2) + 1) (hn : n ≤ 17592186043904) : wrap64 ((p : Int) + 1) = (q : Int) ∧ ¬ q < n := by
  subst hp hq
  exact ⟨by unfold wrap64; omega, by omega⟩
theorem Bl.setAt {w : World} {b t : Nat} {vs : Array Value} (h : Bl w b t vs) (i : Nat) (v : Value) : Bl (w.setCell ⟨b, i, none⟩ v) b t (vs.setIfInBounds i v) := by
  unfold Bl at *
  simp [World.setCell, Array.getElem?_modify, h]
theorem Rws.shape {W : World} {base : Nat} {v3 v4 : Value} {l : List (Nat × Nat)} {w : World} (h : Rws W base v3 v4 l w) : ∃ a3 c3 a4 c4, v3 = .slice a3 l.length c3 ∧ v4 = .slice a4 l.length c4 ∧ Cs w a3 l ∧ Ns w a4 l ∧
    (0 < l.length → ∃ g g4 cur cur4, a3 = some ⟨g, 0, none⟩ ∧ a4 = some ⟨g4, 0, none⟩ ∧ base ≤ g ∧ g ≠ g4 ∧ Bl w g 26 cur ∧ Bl w g4 33 cur4 ∧ (∀ j, j < l.length → cur[j]? = some (.complex .f64 (l.getD j (0, 0)).1 (l.getD j (0, 0)).2)) ∧
      (∀ j, j < l.length → cur4[j * 2]? = some (.float .f64 (l.getD j (0, 0)).1) ∧ cur4[j * 2 + 1]? = some (.float .f64 (l.getD j (0, 0)).2))) := by
  by_cases h0 : l.length = 0
  · have e0 : l = [] := List.eq_nil_of_length_eq_zero h0
    subst e0
    have a : ∃ a3 c3, v3 = .slice a3 0 c3 := by
      rcases h.a.2 with ⟨e, _⟩ | ⟨g, cap, cur, e, _⟩
      · exact ⟨_, _, e⟩
      · exact ⟨_, _, e⟩
    have b : ∃ a4 c4, v4 = .slice a4 0 c4 := by
      rcases h.b.2 with ⟨e, _⟩ | ⟨g, cap, cur, e, _⟩
      · exact ⟨_, _, e⟩
      · exact ⟨_, _, e⟩
    obtain ⟨a3, c3, e3⟩ := a
    obtain ⟨a4, c4, e4⟩ := b
    exact ⟨a3, c3, a4, c4, e3, e4, fun i hi => by simp at hi, fun i hi => by simp at hi, fun hh => by simp at hh⟩
  · rcases h.a.2 with ⟨_, e⟩ | ⟨g, cap, cur, e3, hb, hg, _, _, _, ht⟩
    · exact absurd e h0
    rcases h.b.2 with ⟨_, e⟩ | ⟨g4, cap4, cur4, e4, hb4, hg4, _, _, _, ht4⟩
    · exact absurd e h0
    have c1 : ∀ j, j < l.length → cur[j]? = some (.complex .f64 (l.getD j (0, 0)).1 (l.getD j (0, 0)).2) := fun j hj => by
      have : (cxs l)[j]? = some (.complex .f64 (l.getD j (0, 0)).1 (l.getD j (0, 0)).2) := by simp [cxs, List.getD, hj]
      rw [← ht, List.getElem?_take, if_pos (by omega)] at this
      simpa using this
    have c2 : ∀ j, j < l.length → cur4[j * 2]? = some (.float .f64 (l.getD j (0, 0)).1) ∧ cur4[j * 2 + 1]? = some (.float .f64 (l.getD j (0, 0)).2) := fun j hj => by
      obtain ⟨n1, n2⟩ := nms_at l j hj
      rw [← ht4, List.getElem?_take, if_pos (by omega)] at n1
      rw [← ht4, List.getElem?_take, if_pos (by omega)] at n2
      exact ⟨by simpa using n1, by simpa using n2⟩
    have kG : Bl w g 26 cur := hg
    have kN : Bl w g4 33 cur4 := hg4
    refine ⟨_, _, _, _, e3, e4, fun i hi => ⟨g, 0, rfl, by rw [Nat.zero_add]; exact kG.cell (c1 i hi)⟩, fun i hi => ⟨g4, 0, rfl, by rw [Nat.zero_add]; exact kN.cell (c2 i hi).1, by rw [Nat.zero_add]; exact kN.cell (c2 i hi).2⟩, fun _ => ⟨g, g4, cur, cur4, rfl, rfl, hb, ?_, kG, kN, c1, c2⟩⟩
    intro e
    subst e
    rw [hg] at hg4
    simp at hg4
set_option maxRecDepth 20000 in
set_option maxHeartbeats 6400000 in
theorem means_walk (so : Option Addr) (cap : Nat) (z : List Nat) (hz : ∀ i, z.getD i 0 < 18446744073709551616) (hl : z.length ≤ 17592186043904) (w : World) (hU : Us w so z) :
    Calls Try.prog 5 #[.slice so z.length cap] w fun e w' => e = .returned (.bool true) ∧ Below w.heap.size w w' := by
  obtain ⟨i0, hi, hz0, hz1, hz2⟩ := info_parts Try.info26
  obtain ⟨j0, hj, hy0, hy1, hy2⟩ := info_parts Try.info33
  have HU := hid' hU
  have HZ := hid' hz
  clear hU hz
  go_enter Try.func5, Try.ntmps5
  go_wp2
  go_loopw [3, 4, 5] (fun v3 v4 v5 wr => ∃ k p : Nat, k ≤ z.length / 2 ∧ Hid (p = 2 * k) ∧ v5 = .int .i64 (p : Int) ∧ Hid (Rws w w.heap.size v3 v4 (prs z k) wr)) (fun _ _ v5 _ => z.length - (intOf v5).toNat)
  case atStart => exact ⟨0, 0, by omega, rfl, rfl, ⟨World.ownsRow_nil _ _ _ _, World.ownsRow_nil _ _ _ _, Below.refl _ _, Nat.le_refl _⟩⟩
  case round =>
    obtain ⟨k, p, hk, hp2, rfl, hR⟩ := hrel
    by_cases hlt : k < z.length / 2
    · obtain ⟨q, hq2⟩ : ∃ q, q = 2 * k + 1 := ⟨_, rfl⟩
      obtain ⟨w1, w2, l0, l1⟩ := wq hp2.out hq2 hlt hl
      obtain ⟨b, off, rfl, c0⟩ := HU.out p l0
      obtain ⟨b', off', e', c1⟩ := HU.out q l1
      simp only [Option.some.injEq, Addr.mk.injEq] at e'
      obtain ⟨rfl, rfl, _⟩ := e'
      have r0 := below_cell c0 hR.out.c
      have r1 := below_cell c1 hR.out.c
      have hs := hid' (prs_succ z k)
      have hp := hid' (prs_len z k)
      rw [← hq2, ← hp2.out] at hs
      have c0' := c0
      have C0 := hid' c0
      have C1 := hid' c1
      replace hq2 := hid' hq2
      have hk2 := hid' hlt
      clear c1 c0 hlt hk
      generalize z.getD p 0 = x at *
      generalize z.getD q 0 = y at *
      have ne3 : some b ≠ u3.ownBlock := fun e => by have := (hR.out.a.lt b e.symm).1; have := World.block_lt_of_cell? w ⟨b, off + p, none⟩ c0'; simp only [] at this; omega
      clear c0'
      go_wp2
      refine wp_region_held_drew (S := C2 ⟨b, off + p, none⟩ ⟨b, off + q, none⟩ (.int .u64 (x : Int)) (.int .u64 (y : Int))) (by kernel_rfl) ⟨r0, r1⟩ (fun hHeld => ?_)
      refine wpAnyH_take (i := 0) (v := ?tv1) rfl (by kernel_rfl) (by kernel_rfl) (by kernel_rfl) (fun _ _ _ h => h) (Or.inl ⟨by rfl, ?ty1⟩) (by assumption) ?tr1
      case ty1 => (intro w hSw; (try dsimp only at hSw); go_simp <;> with_reducible rfl)
      try simp only [Act.put, List.getElem_toArray, List.getElem_cons_zero, List.getElem_cons_succ, List.setIfInBounds_toArray, List.set_cons_zero, List.set_cons_succ]
      refine wpAnyH_take (i := 1) (v := ?tv2) rfl (by kernel_rfl) (by kernel_rfl) (by kernel_rfl) (fun _ _ _ h => h) (Or.inl ⟨by rfl, ?ty2⟩) (by assumption) ?tr2
      case ty2 => (intro w hSw; (try dsimp only at hSw); go_simp <;> with_reducible rfl)
      try simp only [Act.put, List.getElem_toArray, List.getElem_cons_zero, List.getElem_cons_succ, List.setIfInBounds_toArray, List.set_cons_zero, List.set_cons_succ]
      refine wpAnyH_take (i := 2) (v := ?tv3) rfl (by kernel_rfl) (by kernel_rfl) (by kernel_rfl) (fun _ _ _ h => h) (Or.inl ⟨by rfl, ?ty3⟩) (by assumption) ?tr3
      case ty3 => (intro w hSw; (try dsimp only at hSw); go_simp <;> with_reducible rfl)
      try simp only [Act.put, List.getElem_toArray, List.getElem_cons_zero, List.getElem_cons_succ, List.setIfInBounds_toArray, List.set_cons_zero, List.set_cons_succ]
      refine wpAnyH_take (i := 3) (v := ?tv4) rfl (by kernel_rfl) (by kernel_rfl) (by kernel_rfl) (fun _ _ _ h => h) (Or.inl ⟨by rfl, ?ty4⟩) (by assumption) ?tr4
      case ty4 => (intro w hSw; (try dsimp only at hSw); go_simp <;> with_reducible rfl)
      try simp only [Act.put, List.getElem_toArray, List.getElem_cons_zero, List.getElem_cons_succ, List.setIfInBounds_toArray, List.set_cons_zero, List.set_cons_succ]
      refine wpAnyH_take (i := 4) (v := ?tv5) rfl (by kernel_rfl) (by kernel_rfl) (by kernel_rfl) (fun _ _ _ h => h) (Or.inl ⟨by rfl, ?ty5⟩) (by assumption) ?tr5
      case ty5 => (intro w hSw; (try dsimp only at hSw); go_simp <;> with_reducible rfl)
      try simp only [Act.put, List.getElem_toArray, List.getElem_cons_zero, List.getElem_cons_succ, List.setIfInBounds_toArray, List.set_cons_zero, List.set_cons_succ]
      refine wpAnyH_take (i := 5) (v := ?tv6) rfl (by kernel_rfl) (by kernel_rfl) (by kernel_rfl) (fun _ _ _ h => h) (Or.inl ⟨by rfl, ?ty6⟩) (by assumption) ?tr6
      case ty6 => (intro w hSw; (try dsimp only at hSw); go_simp <;> with_reducible rfl)
      try simp only [Act.put, List.getElem_toArray, List.getElem_cons_zero, List.getElem_cons_succ, List.setIfInBounds_toArray, List.set_cons_zero, List.set_cons_succ]
      refine wpAnyH_take (i := 6) (v := ?tv7) rfl (by kernel_rfl) (by kernel_rfl) (by kernel_rfl) (fun _ _ _ h => h) (Or.inl ⟨by rfl, ?ty7⟩) (by assumption) ?tr7
      case ty7 => (intro w hSw; (try dsimp only at hSw); go_simp <;> with_reducible rfl)
      try simp only [Act.put, List.getElem_toArray, List.getElem_cons_zero, List.getElem_cons_succ, List.setIfInBounds_toArray, List.set_cons_zero, List.set_cons_succ]
      refine wpAnyH_take (i := 7) (v := ?tv8) rfl (by kernel_rfl) (by kernel_rfl) (by kernel_rfl) (fun _ _ _ h => h) (Or.inl ⟨by rfl, ?ty8⟩) (by assumption) ?tr8
      case ty8 => (intro w hSw; (try dsimp only at hSw); go_simp <;> with_reducible rfl)
      try simp only [Act.put, List.getElem_toArray, List.getElem_cons_zero, List.getElem_cons_succ, List.setIfInBounds_toArray, List.set_cons_zero, List.set_cons_succ]
      refine wpAnyH_take (i := 8) (v := ?tv9) rfl (by kernel_rfl) (by kernel_rfl) (by kernel_rfl) (fun _ _ _ h => h) (Or.inl ⟨by rfl, ?ty9⟩) (by assumption) ?tr9
      case ty9 => (intro w hSw; (try dsimp only at hSw); go_simp <;> with_reducible rfl)
      try simp only [Act.put, List.getElem_toArray, List.getElem_cons_zero, List.getElem_cons_succ, List.setIfInBounds_toArray, List.set_cons_zero, List.set_cons_succ]
      refine wpAnyH_take (i := 9) (v := ?tv10) rfl (by kernel_rfl) (by kernel_rfl) (by kernel_rfl) (fun _ _ _ h => h) (Or.inl ⟨by rfl, ?ty10⟩) (by assumption) ?tr10
      case ty10 => (intro w hSw; (try dsimp only at hSw); go_simp <;> with_reducible rfl)
      try simp only [Act.put, List.getElem_toArray, List.getElem_cons_zero, List.getElem_cons_succ, List.setIfInBounds_toArray, List.set_cons_zero, List.set_cons_succ]
      refine wpAnyH_ready (rs := [10]) (by kernel_rfl) (by simp) (AllReadyH.cons rfl (fun K hK => ?_) AllReadyH.nil)
      go_simp
      refine (of_any _ _ _).mono ?_
      rintro e w2 ⟨rfl, rfl⟩
      dsimp only
      refine hK.out _ _ ?_ (fun hHeld => ?_)
      · assumption
      clear hK K
      try simp only [Act.put, List.getElem_toArray, List.getElem_cons_zero, List.getElem_cons_succ, List.setIfInBounds_toArray, List.set_cons_zero, List.set_cons_succ]
      refine wpAnyH_ready (rs := [11]) (by kernel_rfl) (by simp) (AllReadyH.cons rfl (fun K hK => ?_) AllReadyH.nil)
      go_simp
      refine hK.out _ _ ?_ (fun hHeld => ?_)
      · exact C2.gr (by assumption) ((Gr.refl _).alloc _)
      clear hK K
      try simp only [Act.put, List.getElem_toArray, List.getElem_cons_zero, List.getElem_cons_succ, List.setIfInBounds_toArray, List.set_cons_zero, List.set_cons_succ]
      refine wpAnyH_ready (rs := [12]) (by kernel_rfl) (by simp) (AllReadyH.cons rfl (fun K hK => ?_) AllReadyH.nil)
      refine wp_append_own _ (.tmp 14) (.tmp 25) 69 rfl w.heap.size 26 i0 (.complex .f64 0 0) 1 16 Try.underlying69 hi hz0 hz1 hz2 rfl (by decide) _ (prs z k).length _ rfl (hR.out.a.alloc _) ⟨wr.heap.size, 0, none⟩ 1 1 [.complex .f64 x y] rfl rfl (one_cell1 _ _ _) (fun u hu => by simp at hu; subst hu; rfl) (by rw [hp.out]; have := hk2.out; unfold maxLen; omega) (by rw [hp.out]; have := hk2.out; omega) (by have := hR.out.s; simp; omega) ?_
      intro sv' w' ho' hg' _
      refine hK.out _ _ ?_ (fun hHeld => ?_)
      · exact C2.grown (by assumption) hg' ne3 ne3
      clear hK K
      try simp only [Act.put, List.getElem_toArray, List.getElem_cons_zero, List.getElem_cons_succ, List.setIfInBounds_toArray, List.set_cons_zero, List.set_cons_succ]
      refine wpAnyH_take (i := 13) (v := ?tv11) rfl (by kernel_rfl) (by kernel_rfl) (by kernel_rfl) (fun _ _ _ h => h) (Or.inl ⟨by rfl, ?ty11⟩) (by assumption) ?tr11
      case ty11 => (intro w hSw; (try dsimp only at hSw); go_simp <;> with_reducible rfl)
      try simp only [Act.put, List.getElem_toArray, List.getElem_cons_zero, List.getElem_cons_succ, List.setIfInBounds_toArray, List.set_cons_zero, List.set_cons_succ]
      refine wpAnyH_done (by kernel_rfl) ?_ _
      have hg6 : (wr.alloc (.cells #[.complex .f64 x y] 26)).grownBy w' u3.ownBlock := undrew hg'
      have R6 : Hid (w'.ownsRow w.heap.size 33 2 u4 (prs z k).length (nms (prs z k)) ∧ w'.ownsRow w.heap.size 26 1 sv' (prs z (k + 1)).length (cxs (prs z (k + 1))) ∧ Below w.heap.size w w' ∧ w.heap.size ≤ w'.heap.size) := by
        refine ⟨(hR.out.b.alloc _).kept hg6 (rows_ne hR.out.b hR.out.a (by decide)), ?_, (hR.out.c.alloc hR.out.s _).grown hg6 (by have := hR.out.s; simp; omega) (fun j hj => (hR.out.a.lt j hj).1), ?_⟩
        · rw [hs.out, List.length_append]
          show w'.ownsRow w.heap.size 26 1 sv' ((prs z k).length + 1) (cxs (prs z k ++ [(x, y)]))
          rw [cxs, List.map_append]
          exact ho'
        · have h1 := hg6.size
          have h2 := hR.out.s
          rw [World.size_alloc] at h1
          exact Nat.le_trans h2 (Nat.le_of_succ_le h1)
      have ne4 : some b ≠ u4.ownBlock := fun e => by have := (hR.out.b.lt b e.symm).1; have := World.block_lt_of_cell? w ⟨b, off + p, none⟩ C0.out; simp only [] at this; omega
      clear r0 r1 hHeld ho' hg' hg6 hR ne3
      have r0 := below_cell C0.out R6.out.2.2.1
      have r1 := below_cell C1.out R6.out.2.2.1
      go_wp2
      refine wp_region_held_drew (S := C2 ⟨b, off + p, none⟩ ⟨b, off + q, none⟩ (.int .u64 (x : Int)) (.int .u64 (y : Int))) (by kernel_rfl) ⟨r0, r1⟩ (fun hHeld => ?_)
      refine wpAnyH_take (i := 0) (v := ?tv12) rfl (by kernel_rfl) (by kernel_rfl) (by kernel_rfl) (fun _ _ _ h => h) (Or.inl ⟨by rfl, ?ty12⟩) (by assumption) ?tr12
      case ty12 => (intro w hSw; (try dsimp only at hSw); go_simp <;> with_reducible rfl)
      try simp only [Act.put, List.getElem_toArray, List.getElem_cons_zero, List.getElem_cons_succ, List.setIfInBounds_toArray, List.set_cons_zero, List.set_cons_succ]
      refine wpAnyH_take (i := 1) (v := ?tv13) rfl (by kernel_rfl) (by kernel_rfl) (by kernel_rfl) (fun _ _ _ h => h) (Or.inl ⟨by rfl, ?ty13⟩) (by assumption) ?tr13
      case ty13 => (intro w hSw; (try dsimp only at hSw); go_simp <;> with_reducible rfl)
      try simp only [Act.put, List.getElem_toArray, List.getElem_cons_zero, List.getElem_cons_succ, List.setIfInBounds_toArray, List.set_cons_zero, List.set_cons_succ]
      refine wpAnyH_take (i := 2) (v := ?tv14) rfl (by kernel_rfl) (by kernel_rfl) (by kernel_rfl) (fun _ _ _ h => h) (Or.inl ⟨by rfl, ?ty14⟩) (by assumption) ?tr14
      case ty14 => (intro w hSw; (try dsimp only at hSw); go_simp <;> with_reducible rfl)
      try simp only [Act.put, List.getElem_toArray, List.getElem_cons_zero, List.getElem_cons_succ, List.setIfInBounds_toArray, List.set_cons_zero, List.set_cons_succ]
      refine wpAnyH_take (i := 3) (v := ?tv15) rfl (by kernel_rfl) (by kernel_rfl) (by kernel_rfl) (fun _ _ _ h => h) (Or.inl ⟨by rfl, ?ty15⟩) (by assumption) ?tr15
      case ty15 => (intro w hSw; (try dsimp only at hSw); go_simp <;> with_reducible rfl)
      try simp only [Act.put, List.getElem_toArray, List.getElem_cons_zero, List.getElem_cons_succ, List.setIfInBounds_toArray, List.set_cons_zero, List.set_cons_succ]
      refine wpAnyH_take (i := 4) (v := ?tv16) rfl (by kernel_rfl) (by kernel_rfl) (by kernel_rfl) (fun _ _ _ h => h) (Or.inl ⟨by rfl, ?ty16⟩) (by assumption) ?tr16
      case ty16 => (intro w hSw; (try dsimp only at hSw); go_simp <;> with_reducible rfl)
      try simp only [Act.put, List.getElem_toArray, List.getElem_cons_zero, List.getElem_cons_succ, List.setIfInBounds_toArray, List.set_cons_zero, List.set_cons_succ]
      refine wpAnyH_take (i := 5) (v := ?tv17) rfl (by kernel_rfl) (by kernel_rfl) (by kernel_rfl) (fun _ _ _ h => h) (Or.inl ⟨by rfl, ?ty17⟩) (by assumption) ?tr17
      case ty17 => (intro w hSw; (try dsimp only at hSw); go_simp <;> with_reducible rfl)
      try simp only [Act.put, List.getElem_toArray, List.getElem_cons_zero, List.getElem_cons_succ, List.setIfInBounds_toArray, List.set_cons_zero, List.set_cons_succ]
      refine wpAnyH_take (i := 6) (v := ?tv18) rfl (by kernel_rfl) (by kernel_rfl) (by kernel_rfl) (fun _ _ _ h => h) (Or.inl ⟨by rfl, ?ty18⟩) (by assumption) ?tr18
      case ty18 => (intro w hSw; (try dsimp only at hSw); go_simp <;> with_reducible rfl)
      try simp only [Act.put, List.getElem_toArray, List.getElem_cons_zero, List.getElem_cons_succ, List.setIfInBounds_toArray, List.set_cons_zero, List.set_cons_succ]
      refine wpAnyH_take (i := 7) (v := ?tv19) rfl (by kernel_rfl) (by kernel_rfl) (by kernel_rfl) (fun _ _ _ h => h) (Or.inl ⟨by rfl, ?ty19⟩) (by assumption) ?tr19
      case ty19 => (intro w hSw; (try dsimp only at hSw); go_simp <;> with_reducible rfl)
      try simp only [Act.put, List.getElem_toArray, List.getElem_cons_zero, List.getElem_cons_succ, List.setIfInBounds_toArray, List.set_cons_zero, List.set_cons_succ]
      refine wpAnyH_take (i := 8) (v := ?tv20) rfl (by kernel_rfl) (by kernel_rfl) (by kernel_rfl) (fun _ _ _ h => h) (Or.inl ⟨by rfl, ?ty20⟩) (by assumption) ?tr20
      case ty20 => (intro w hSw; (try dsimp only at hSw); go_simp <;> with_reducible rfl)
      try simp only [Act.put, List.getElem_toArray, List.getElem_cons_zero, List.getElem_cons_succ, List.setIfInBounds_toArray, List.set_cons_zero, List.set_cons_succ]
      refine wpAnyH_take (i := 9) (v := ?tv21) rfl (by kernel_rfl) (by kernel_rfl) (by kernel_rfl) (fun _ _ _ h => h) (Or.inl ⟨by rfl, ?ty21⟩) (by assumption) ?tr21
      case ty21 => (intro w hSw; (try dsimp only at hSw); go_simp <;> with_reducible rfl)
      try simp only [Act.put, List.getElem_toArray, List.getElem_cons_zero, List.getElem_cons_succ, List.setIfInBounds_toArray, List.set_cons_zero, List.set_cons_succ]
      refine wpAnyH_ready (rs := [10]) (by kernel_rfl) (by simp) (AllReadyH.cons rfl (fun K hK => ?_) AllReadyH.nil)
      go_simp
      refine (of_any _ _ _).mono ?_
      rintro e w2 ⟨rfl, rfl⟩
      dsimp only
      refine hK.out _ _ ?_ (fun hHeld => ?_)
      · assumption
      clear hK K
      try simp only [Act.put, List.getElem_toArray, List.getElem_cons_zero, List.getElem_cons_succ, List.setIfInBounds_toArray, List.set_cons_zero, List.set_cons_succ]
      refine wpAnyH_ready (rs := [11]) (by kernel_rfl) (by simp) (AllReadyH.cons rfl (fun K hK => ?_) AllReadyH.nil)
      go_simp
      refine (num_any _ _ _).mono ?_
      rintro e w3 ⟨rfl, g3⟩
      dsimp only
      refine hK.out _ _ ?_ (fun hHeld => ?_)
      · exact C2.gr (by assumption) g3
      clear hK K
      try simp only [Act.put, List.getElem_toArray, List.getElem_cons_zero, List.getElem_cons_succ, List.setIfInBounds_toArray, List.set_cons_zero, List.set_cons_succ]
      refine wpAnyH_ready (rs := [12]) (by kernel_rfl) (by simp) (AllReadyH.cons rfl (fun K hK => ?_) AllReadyH.nil)
      go_simp
      refine hK.out _ _ ?_ (fun hHeld => ?_)
      · exact C2.gr (by assumption) ((Gr.refl _).alloc _)
      clear hK K
      try simp only [Act.put, List.getElem_toArray, List.getElem_cons_zero, List.getElem_cons_succ, List.setIfInBounds_toArray, List.set_cons_zero, List.set_cons_succ]
      refine wpAnyH_ready (rs := [13]) (by kernel_rfl) (by simp) (AllReadyH.cons rfl (fun K hK => ?_) AllReadyH.nil)
      refine wp_append_own _ (.tmp 27) (.tmp 39) 70 rfl w.heap.size 33 j0 (.agg #[.float .f64 0, .float .f64 0]) 2 16 Try.underlying70 hj hy0 hy1 hy2 rfl (by decide) _ (prs z k).length _ rfl (((row_gr R6.out.1 (((Gr.refl w').drew).trans g3)).alloc _)) ⟨w3.heap.size, 0, none⟩ 1 1 [.float .f64 x, .float .f64 y] rfl rfl (one_cell2 _ _ _ _) (fun u hu => by simp at hu; rcases hu with rfl | rfl <;> rfl) (by rw [hp.out]; have := hk2.out; unfold maxLen; omega) (by rw [hp.out]; have := hk2.out; omega) (by have := R6.out.2.2.2; have := g3.size; simp at *; omega) ?_
      intro sv7 w7 ho7 hg7 _
      refine hK.out _ _ ?_ (fun hHeld => ?_)
      · exact C2.grown (by assumption) hg7 ne4 ne4
      clear hK K
      try simp only [Act.put, List.getElem_toArray, List.getElem_cons_zero, List.getElem_cons_succ, List.setIfInBounds_toArray, List.set_cons_zero, List.set_cons_succ]
      refine wpAnyH_take (i := 14) (v := ?tv22) rfl (by kernel_rfl) (by kernel_rfl) (by kernel_rfl) (fun _ _ _ h => h) (Or.inl ⟨by rfl, ?ty22⟩) (by assumption) ?tr22
      case ty22 => (intro w hSw; (try dsimp only at hSw); go_simp <;> with_reducible rfl)
      try simp only [Act.put, List.getElem_toArray, List.getElem_cons_zero, List.getElem_cons_succ, List.setIfInBounds_toArray, List.set_cons_zero, List.set_cons_succ]
      refine wpAnyH_done (by kernel_rfl) ?_ _
      replace g3 := ((Gr.refl w').drew).trans g3
      have hg8 : (w3.alloc (.cells #[.float .f64 x, .float .f64 y] 33)).grownBy w7 u4.ownBlock := hg7
      have hB7 : w.heap.size ≤ w3.heap.size := Nat.le_trans R6.out.2.2.2 g3.size
      have R7 : Hid (Rws w w.heap.size sv' sv7 (prs z (k + 1)) w7) := by
        refine ⟨((row_gr R6.out.2.1 g3).alloc _).kept hg8 (rows_ne R6.out.2.1 R6.out.1 (by decide)), ?_, ((R6.out.2.2.1.trans (g3.below.mono R6.out.2.2.2)).alloc hB7 _).grown hg8 (by simp; omega) (fun j hj => ((row_gr R6.out.1 g3).lt j hj).1), ?_⟩
        · rw [hs.out, List.length_append]
          show w7.ownsRow w.heap.size 33 2 sv7 ((prs z k).length + 1) (nms (prs z k ++ [(x, y)]))
          rw [nms_app]
          exact ho7
        · have h1 := hg8.size
          rw [World.size_alloc] at h1
          exact Nat.le_trans hB7 (Nat.le_of_succ_le h1)
      clear r0 r1 hHeld ho7 hg7 hg8 ne4 R6 hs hp g3 hB7 C0 C1
      go_wp2
      go_roundw
      case rel => exact ⟨k + 1, p + 2, by have := hk2.out; omega, by have := hp2.out; unfold Hid; omega, by go_num, R7⟩
      case measure => have := hk2.out; have := hp2.out; simp [intOf]; omega
    · obtain rfl : k = z.length / 2 := by omega
      obtain ⟨q, hq2⟩ : ∃ q, q = 2 * (z.length / 2) + 1 := ⟨_, rfl⟩
      obtain ⟨w1, l1⟩ := wq' hp2.out hq2 hl
      have hn : (prs z (z.length / 2)).length ≤ 8796093022208 := by rw [prs_len]; omega
      have ok := hid' (prs_ok HZ.out (z.length / 2))
      generalize prs z (z.length / 2) = l at *
      obtain ⟨a3, c3, a4, c4, rfl, rfl, CS, NS, hsh⟩ := hR.out.shape
      have hB := hid' hR.out.c
      have hBs := hR.out.s
      have M1 := hid' (mean_any a3 c3 l wr (by omega) ok.out CS)
      have M2 : Hid (∀ w', Gr wr w' → Calls Try.prog 34 #[.slice a4 l.length c4] w' fun e w'' => ∃ r s, e = .returned (numV r s) ∧ V r (mnR (SR l l.length) (SI l l.length)) ∧ V s (mnI (SR l l.length) (SI l l.length)) ∧ Gr w' w'') := fun w' g => rmean_any a4 c4 l w' (by omega) ok.out (NS.gr g)
      clear hR CS NS hq2 hp2 HZ HU hk hlt
      generalize mnR (SR l l.length) (SI l l.length) = X at *
      generalize mnI (SR l l.length) (SI l l.length) = Y at *
      have lv := fun w => hid' (lives_any w)
      by_cases h0 : l.length = 0
      · have e0 : l = [] := List.eq_nil_of_length_eq_zero h0
        subst e0
        clear hsh h0
        go_wp2_with (first
          | (go_at_call 33; refine M1.out.mono ?_; rintro e w4 ⟨r1, s1, rfl, v1, v2, g1⟩)
          | (go_at_call 34; refine (M2.out _ g1).mono ?_; rintro e w5 ⟨r2, s2, rfl, v3, v4, g2⟩)
          | (go_at_call 12; refine (law_alike v1 v2 v3 v4 _).mono ?_; rintro e w6 ⟨rfl, g3⟩))
        have G := (g1.trans g2).trans g3
        clear M1 M2 v1 v2 v3 v4
        go_loopw [6] (fun v6 w7 => v6 = .int .i64 0 ∧ Gr wr w7) (fun _ _ => 0)
        case atStart => exact ⟨rfl, G⟩
        case round =>
          obtain ⟨rfl, G7⟩ := hrel
          go_wp2_with (go_at_call 26; refine (lv _).out.mono ?_; rintro e w8 ⟨rfl, g8⟩)
          go_ret
          exact ⟨rfl, hB.out.trans ((G7.trans g8).below.mono hBs)⟩
      · obtain ⟨g, g4, cur, cur4, rfl, rfl, hbg, hgn, kG, kN, hcur, hcur4⟩ := hsh (by omega)
        have HN := hid' hcur4
        go_wp2_with (first
          | (go_at_call 33; refine M1.out.mono ?_; rintro e w4 ⟨r1, s1, rfl, v1, v2, g1⟩)
          | (go_at_call 34; refine (M2.out _ g1).mono ?_; rintro e w5 ⟨r2, s2, rfl, v3, v4, g2⟩)
          | (go_at_call 12; refine (law_alike v1 v2 v3 v4 _).mono ?_; rintro e w6 ⟨rfl, g3⟩))
        have G := (g1.trans g2).trans g3
        have HB := hid' (hB.out.trans (G.below.mono hBs))
        clear M1 M2 v1 v2 v3 v4 hcur4
        go_loopw [6] (fun v6 w7 => ∃ (k : Nat) (cu : Array Value), k ≤ l.length ∧ v6 = .int .i64 k ∧ Hid (Bl w7 g 26 cu) ∧ Hid (∀ j, j < l.length → cu[j]? = some (if j < k then .complex .f64 4607182418800017408 0 else .complex .f64 (l.getD j (0, 0)).1 (l.getD j (0, 0)).2)) ∧ Hid (Bl w7 g4 33 cur4) ∧ Hid (Below w.heap.size w w7) ∧ w.heap.size ≤ w7.heap.size) (fun v6 _ => l.length - (intOf v6).toNat)
        case atStart => exact ⟨0, cur, by omega, rfl, kG.gr G, (by intro j hj; rw [if_neg (by omega)]; exact hcur j hj), kN.gr G, HB.out, Nat.le_trans hBs G.size⟩
        case round =>
          clear hcur kG kN HB G g1 g2 g3 hB hBs
          obtain ⟨k, cu, hk, rfl, kG, hcu, kN, HB, hS⟩ := hrel
          by_cases hlt : k < l.length
          · obtain ⟨y0, y1⟩ := HN.out k hlt
            have x0 := hcu.out k hlt
            rw [if_neg (by omega)] at x0
            obtain ⟨o1, o2⟩ := ok.out k
            have A1 := fun w => hid' (law_alike (V.refl o1) (V.refl o2) (V.refl o1) (V.refl o2) w)
            generalize (l.getD k (0, 0)).1 = a at *
            generalize (l.getD k (0, 0)).2 = c at *
            replace x0 : ∀ w', Gr wr w' → w'.cell? ⟨g, k, none⟩ = some (.complex .f64 a c) := fun w' h => (kG.out.gr h).cell x0
            replace y0 : ∀ w', Gr wr w' → w'.cell? ⟨g4, k * 2, none⟩ = some (.float .f64 a) := fun w' h => (kN.out.gr h).cell y0
            replace y1 : ∀ w', Gr wr w' → w'.cell? ⟨g4, k * 2 + 1, none⟩ = some (.float .f64 c) := fun w' h => (kN.out.gr h).cell y1
            clear o1 o2
            go_wp2
            go_region_held3 (Gr wr)
              (first
                | exact (Gr.refl _).drew
                | exact Gr.trans (by assumption) (by assumption))
              (first
                | (go_at_call 12; refine (A1 _).out.mono ?_; rintro e w8 ⟨rfl, g8⟩))
            rename_i hH
            have kG2 := hid' (kG.out.gr hH)
            have kN2 := hid' (kN.out.gr hH)
            have HB2 := hid' (HB.out.trans (hH.below.mono hS))
            have hS2 := Nat.le_trans hS hH.size
            have p0 := x0 _ hH
            have p1 := kG2.out.fro k
            have sc := run_store_c
            clear x0 y0 y1 A1 g8 hH kG kN HB hS
            go_wp2
            go_roundw
            case rel =>
              refine ⟨k + 1, cu.setIfInBounds k (.complex .f64 4607182418800017408 0), by omega, by go_num, kG2.out.setAt _ _, ?_, kN2.out.other (by simpa using hgn) _, HB2.out.setCell (by simp only []; omega) _, by simpa using hS2⟩
              intro j hj
              have := hcu.out j hj
              by_cases e : j = k
              · subst e
                rw [if_pos (by omega)]
                have hsz : j < cu.size := (Array.getElem?_eq_some_iff.1 this).1
                simp [hsz]
              · rw [Array.getElem?_setIfInBounds_ne (by omega), this]
                by_cases e2 : j < k
                · rw [if_pos e2, if_pos (by omega)]
                · rw [if_neg e2, if_neg (by omega)]
            case measure => simp [intOf]; omega
          · obtain rfl : k = l.length := by omega
            have C1 : Cs wr (some ⟨g, 0, none⟩) (List.replicate l.length (4607182418800017408, 0)) := fun i hi => by
              rw [List.length_replicate] at hi
              have := hcu.out i hi
              rw [if_pos hi] at this
              refine ⟨g, 0, rfl, ?_⟩
              rw [Nat.zero_add, kG.out.cell this]
              simp [List.getD, hi]
            have O1 : OkC (List.replicate l.length (4607182418800017408, 0)) := fun i => by
              by_cases hi : i < l.length
              · have : (List.replicate l.length ((4607182418800017408, 0) : Nat × Nat)).getD i (0, 0) = (4607182418800017408, 0) := by simp [List.getD, hi]
                rw [this]; exact ⟨by decide, by decide⟩
              · have : (List.replicate l.length ((4607182418800017408, 0) : Nat × Nat)).getD i (0, 0) = (0, 0) := by rw [List.getD_eq_getElem?_getD, List.getElem?_eq_none (by simpa using hi)]; rfl
                rw [this]; exact ⟨by decide, by decide⟩
            have O2 : Ones (List.replicate l.length (4607182418800017408, 0)) := fun i hi => by
              rw [List.length_replicate] at hi
              simp [List.getD, hi]
            have MM := mean_any (some ⟨g, 0, none⟩) c3 _ wr (by rw [List.length_replicate]; omega) O1 C1
            obtain ⟨F1, F2⟩ := ones_mean O2 (by rw [List.length_replicate]; exact hn) (by rw [List.length_replicate]; exact Nat.pos_of_ne_zero h0)
            generalize mnR (SR (List.replicate l.length (4607182418800017408, 0)) (List.replicate l.length ((4607182418800017408, 0) : Nat × Nat)).length) (SI (List.replicate l.length (4607182418800017408, 0)) (List.replicate l.length ((4607182418800017408, 0) : Nat × Nat)).length) = X2 at *
            generalize mnI (SR (List.replicate l.length (4607182418800017408, 0)) (List.replicate l.length ((4607182418800017408, 0) : Nat × Nat)).length) (SI (List.replicate l.length (4607182418800017408, 0)) (List.replicate l.length ((4607182418800017408, 0) : Nat × Nat)).length) = Y2 at *
            rw [List.length_replicate] at MM
            have E1 := F1.ord fl_one
            have E2 := F2.ord Fl.zero
            have N1 := hid' F1.num
            have N2 := hid' F2.num
            replace MM := hid' MM
            have h0' : (l.length == 0) = false := by simpa using h0
            clear C1 O1 O2 F1 F2 hcu kG kN HN ok hn
            go_wp2_with (first
              | (go_at_call 33; refine MM.out.mono ?_; rintro e w8 ⟨r, s, rfl, v1, v2, g8⟩; obtain rfl := v1.num N1.out; obtain rfl := v2.num N2.out)
              | (go_at_call 26; refine (lv _).out.mono ?_; rintro e w9 ⟨rfl, g9⟩))
            go_ret
            exact ⟨rfl, HB.out.trans ((g8.trans g9).below.mono hS)⟩
end Go.Proofs.Ytmjfphidcnjklaa
