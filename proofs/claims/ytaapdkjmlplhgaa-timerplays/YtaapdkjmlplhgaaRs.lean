/- The document's own Set. -/
import Derived.Test.YtaapdkjmlplhgaaRi
set_option linter.unusedSimpArgs false
set_option linter.unusedVariables false
namespace Go.Proofs.Ytaapdkjmlplhgaa
open Go.RowKit Go.Sort Go.Shelf

theorem u32_eq (a b : Int) : ((a : Int) == b) = decide (a = b) := by
  by_cases h : a = b <;> simp [h]
set_option maxHeartbeats 2000000 in
theorem rset_there {B : Nat} {w : World} {r : Nat} {v : Value} {most : Nat} {L : List Du} (R : Rf B w r v most L) (x : Du) (hex : ∃ y ∈ L, y.2 = x.2) (hl : L.length ≤ 4096) :
    Calls Try.prog 13 #[.pointer (some ⟨r, 0, none⟩), dV x] w fun e w' => e = .returned (.int .i64 140) ∧ Gr w w' := by
  obtain ⟨xa, xo, xf⟩ := x
  have k3 := Bk.new w 32 [.int .u32 xa, .int .u32 xo, .int .u32 xf]
  have g0 := (Gr.refl w).alloc (.cells #[.int .u32 xa, .int .u32 xo, .int .u32 xf] 32)
  have R1 := R.gr g0
  have hrw := R.blk.lt
  have hvw := fun g e => (row_lt R.row (g := g) e).1
  clear R
  go_enter Try.func13, Try.ntmps13
  go_upto_region 1 with fail
  generalize w.alloc _ = W at *
  obtain ⟨b3, e3⟩ : ∃ b3, b3 = w.heap.size := ⟨_, rfl⟩
  rw [← e3] at k3 ⊢
  have hb3 : w.heap.size ≤ b3 := by omega
  clear e3
  have K3 := hid0 k3
  have RR := hid0 R1
  have G0 := hid0 g0
  clear k3 R1 g0
  go_wp2
  go_loopw [5] (fun i wr => ∃ k : Nat, k ≤ L.length ∧ i = .int .i64 k ∧ Hid (Gr W wr) ∧ Hid (∀ j, j < k → (nth L j).2 ≠ (xo, xf))) (fun i _ => L.length - (intOf i).toNat)
  case atStart => exact ⟨0, Nat.zero_le _, rfl, Gr.refl _, fun j h => by omega⟩
  case round =>
    obtain ⟨k, hk, rfl, hG, hN⟩ := hrel
    have R2 := RR.out.gr hG.out
    have k3 := K3.out.gr hG.out
    by_cases hlt : k < L.length
    · have hlt' : (k : Int) < (L.length : Int) := by omega
      obtain ⟨g, cp, rfl, _, RG, _⟩ : ∃ g cp, v = .slice (some ⟨g, 0, none⟩) L.length cp ∧ B ≤ g ∧ RowG wr g cp L ∧ L.length ≤ cp := by
        rcases R2.shape with ⟨_, h⟩ | h
        · subst h; simp at hlt
        · exact h
      have d1 := R2.cells.2
      have c1 := fun n => below_cell R2.cells.2 ((Gr.refl wr).drewN n).below
      have p1 := fun n => below_cell (RG.at.cell hlt).2.1 ((Gr.refl wr).drewN n).below
      have p2 := fun n => below_cell (RG.at.cell hlt).2.2 ((Gr.refl wr).drewN n).below
      have x1 := fun n => below_cell (k3.at 1) ((Gr.refl wr).drewN n).below
      have x2 := fun n => below_cell (k3.at 2) ((Gr.refl wr).drewN n).below
      rw [show L.getD k (0, 0, 0) = nth L k from rfl] at p1 p2
      have HE := hid0 (rfl : nth L k = nth L k)
      obtain ⟨y, hy⟩ : ∃ y, y = nth L k := ⟨_, rfl⟩
      rw [← hy] at p1 p2
      replace hy := hid0 hy
      clear RG R2 HE k3
      obtain ⟨ya, yo, yf⟩ := y
      dsimp only at p1 p2
      have HNx : Hid (yo = xo → yf = xf → False) → Hid (∀ j, j < k + 1 → (nth L j).2 ≠ (xo, xf)) := fun h j hj e => by
        by_cases ej : j = k
        · subst ej
          rw [← hy.out] at e
          simp only [Prod.mk.injEq] at e
          exact h.out e.1 e.2
        · exact hN.out j (by omega) e
      by_cases eo : yo = xo
      · subst eo
        by_cases ef : yf = xf
        · have ef : yf = xf := ef
          subst ef
          go_wp2_with fail
          go_quiet (fail)
          have G2 := hid0 (G0.out.trans (hG.out.drewN nq))
          clear c1 p1 p2 x1 x2
          go_wp2
          go_ret
          exact ⟨rfl, G2.out⟩
        · have H2 := HNx (fun _ h => ef h)
          clear HNx hN
          go_wp2_with fail
          go_quiet (fail)
          have G2 := hid0 (hG.out.drewN nq)
          clear c1 p1 p2 x1 x2
          go_wp2
          go_roundw
          case rel => exact ⟨k + 1, by omega, by go_num, G2, H2⟩
          case measure => simp [intOf]; omega
      · have H2 := HNx (fun h _ => eo h)
        clear HNx hN
        go_wp2_with fail
        go_quiet (fail)
        have G2 := hid0 (hG.out.drewN nq)
        clear c1 p1 p2 x1 x2
        go_wp2
        go_roundw
        case rel => exact ⟨k + 1, by omega, by go_num, G2, H2⟩
        case measure => simp [intOf]; omega
    · exfalso
      obtain ⟨y, hy, e⟩ := hex
      obtain ⟨j, h1, h2⟩ := mem_nth.1 hy
      exact hN.out j (by omega) (by rw [h2]; exact e)
set_option maxHeartbeats 2000000 in
theorem rset_full {B : Nat} {w : World} {r : Nat} {v : Value} {most : Nat} {L : List Du} (R : Rf B w r v most L) (x : Du) (hno : ∀ y ∈ L, y.2 ≠ x.2) (hl : L.length ≤ 4096) (hf : most ≤ L.length) :
    Calls Try.prog 13 #[.pointer (some ⟨r, 0, none⟩), dV x] w fun e w' => e = .returned (.int .i64 5) ∧ Gr w w' := by
  obtain ⟨xa, xo, xf⟩ := x
  have k3 := Bk.new w 32 [.int .u32 xa, .int .u32 xo, .int .u32 xf]
  have g0 := (Gr.refl w).alloc (.cells #[.int .u32 xa, .int .u32 xo, .int .u32 xf] 32)
  have R1 := R.gr g0
  have hrw := R.blk.lt
  have hvw := fun g e => (row_lt R.row (g := g) e).1
  clear R
  go_enter Try.func13, Try.ntmps13
  go_upto_region 1 with fail
  generalize w.alloc _ = W at *
  obtain ⟨b3, e3⟩ : ∃ b3, b3 = w.heap.size := ⟨_, rfl⟩
  rw [← e3] at k3 ⊢
  have hb3 : w.heap.size ≤ b3 := by omega
  clear e3
  have K3 := hid0 k3
  have RR := hid0 R1
  have G0 := hid0 g0
  clear k3 R1 g0
  go_wp2
  go_loopw [5] (fun i wr => ∃ k : Nat, k ≤ L.length ∧ i = .int .i64 k ∧ Hid (Gr W wr) ∧ Hid (∀ j, j < k → (nth L j).2 ≠ (xo, xf))) (fun i _ => L.length - (intOf i).toNat)
  case atStart => exact ⟨0, Nat.zero_le _, rfl, Gr.refl _, fun j h => by omega⟩
  case round =>
    obtain ⟨k, hk, rfl, hG, hN⟩ := hrel
    have R2 := RR.out.gr hG.out
    have k3 := K3.out.gr hG.out
    by_cases hlt : k < L.length
    · have hlt' : (k : Int) < (L.length : Int) := by omega
      obtain ⟨g, cp, rfl, _, RG, _⟩ : ∃ g cp, v = .slice (some ⟨g, 0, none⟩) L.length cp ∧ B ≤ g ∧ RowG wr g cp L ∧ L.length ≤ cp := by
        rcases R2.shape with ⟨_, h⟩ | h
        · subst h; simp at hlt
        · exact h
      have d1 := R2.cells.2
      have c1 := fun n => below_cell R2.cells.2 ((Gr.refl wr).drewN n).below
      have p1 := fun n => below_cell (RG.at.cell hlt).2.1 ((Gr.refl wr).drewN n).below
      have p2 := fun n => below_cell (RG.at.cell hlt).2.2 ((Gr.refl wr).drewN n).below
      have x1 := fun n => below_cell (k3.at 1) ((Gr.refl wr).drewN n).below
      have x2 := fun n => below_cell (k3.at 2) ((Gr.refl wr).drewN n).below
      rw [show L.getD k (0, 0, 0) = nth L k from rfl] at p1 p2
      have HE := hid0 (rfl : nth L k = nth L k)
      obtain ⟨y, hy⟩ : ∃ y, y = nth L k := ⟨_, rfl⟩
      rw [← hy] at p1 p2
      replace hy := hid0 hy
      clear RG R2 HE k3
      obtain ⟨ya, yo, yf⟩ := y
      dsimp only at p1 p2
      have HNx : Hid (yo = xo → yf = xf → False) → Hid (∀ j, j < k + 1 → (nth L j).2 ≠ (xo, xf)) := fun h j hj e => by
        by_cases ej : j = k
        · subst ej
          rw [← hy.out] at e
          simp only [Prod.mk.injEq] at e
          exact h.out e.1 e.2
        · exact hN.out j (by omega) e
      by_cases eo : yo = xo
      · subst eo
        by_cases ef : yf = xf
        · exfalso
          subst ef
          exact hno (nth L k) (mem_nth.2 ⟨k, hlt, rfl⟩) (by rw [← hy.out])
        · have H2 := HNx (fun _ h => ef h)
          clear HNx hN
          go_wp2_with fail
          go_quiet (fail)
          have G2 := hid0 (hG.out.drewN nq)
          clear c1 p1 p2 x1 x2
          go_wp2
          go_roundw
          case rel => exact ⟨k + 1, by omega, by go_num, G2, H2⟩
          case measure => simp [intOf]; omega
      · have H2 := HNx (fun h _ => eo h)
        clear HNx hN
        go_wp2_with fail
        go_quiet (fail)
        have G2 := hid0 (hG.out.drewN nq)
        clear c1 p1 p2 x1 x2
        go_wp2
        go_roundw
        case rel => exact ⟨k + 1, by omega, by go_num, G2, H2⟩
        case measure => simp [intOf]; omega
    · have hlt' : ¬ (k : Int) < (L.length : Int) := by omega
      clear hN
      obtain ⟨c0, c1⟩ := R2.cells
      have c0g := fun n => below_cell c0 ((Gr.refl wr).drewN n).below
      have c1g := fun n => below_cell c1 ((Gr.refl wr).drewN n).below
      have hff : (L.length : Int) ≥ (most : Int) := by omega
      have S := R2.shape
      have GG := hid0 (G0.out.trans hG.out)
      clear R2 k3
      rcases S with ⟨rfl, rfl⟩ | ⟨g, cp, rfl, _⟩
      · have hff : (0 : Int) ≥ (most : Int) := by simpa using hff
        go_wp2_with fail
        go_quiet (fail)
        have G2 := hid0 (GG.out.drewN nq)
        clear c0 c1 c0g c1g
        go_wp2
        go_ret
        exact ⟨rfl, G2.out⟩
      · go_wp2_with fail
        go_quiet (fail)
        have G2 := hid0 (GG.out.drewN nq)
        clear c0 c1 c0g c1g
        go_wp2
        go_ret
        exact ⟨rfl, G2.out⟩
end Go.Proofs.Ytaapdkjmlplhgaa
