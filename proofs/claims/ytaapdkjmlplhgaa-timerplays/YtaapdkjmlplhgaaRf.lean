/- The document's own list: New, First, Ready. -/
import Derived.Test.YtaapdkjmlplhgaaAh
set_option linter.unusedSimpArgs false
set_option linter.unusedVariables false
namespace Go.Proofs.Ytaapdkjmlplhgaa
open Go.RowKit Go.Sort Go.Shelf

/-- The reference's Dues in memory. -/
structure Rf (B : Nat) (w : World) (r : Nat) (v : Value) (most : Nat) (L : List Du) : Prop where
  blk : Bk w r 38 [.int .i64 most, v]
  row : w.ownsRow B 32 3 v L.length (flat L)
  lo : B ≤ r
/-- What a call on it changes. -/
structure RCh (r : Nat) (v' : Value) (w w' : World) : Prop where
  chg : Chg (fun k => k = r) w w'
  new : ∀ g, v'.ownBlock = some g → w.heap.size ≤ g
section
variable {B : Nat} {w w' : World} {r : Nat} {v : Value} {most : Nat} {L : List Du}
theorem Rf.keep (R : Rf B w r v most L) (e : w'.heap[r]? = w.heap[r]?) (e2 : ∀ g, v.ownBlock = some g → w'.heap[g]? = w.heap[g]?) : Rf B w' r v most L := ⟨R.blk.same e, row_keep R.row e2, R.lo⟩
theorem Rf.below (R : Rf B w r v most L) (g : Below w.heap.size w w') : Rf B w' r v most L := R.keep (g.block _ R.blk.lt) (fun q e => g.block _ (row_lt R.row e).1)
theorem Rf.gr (R : Rf B w r v most L) (g : Gr w w') : Rf B w' r v most L := R.below g.below
theorem Rf.shape (R : Rf B w r v most L) : (v = .slice none 0 0 ∧ L = []) ∨ ∃ g cp, v = .slice (some ⟨g, 0, none⟩) L.length cp ∧ B ≤ g ∧ RowG w g cp L ∧ L.length ≤ cp := row_of_own R.row
theorem Rf.cells (R : Rf B w r v most L) : w.cell? ⟨r, 0, none⟩ = some (.int .i64 most) ∧ w.cell? ⟨r, 1, none⟩ = some v := ⟨R.blk.at 0, R.blk.at 1⟩
end
theorem rnew_no (n : Int) (w : World) (h : n < 1 ∨ 4096 < n) : Calls Try.prog 8 #[.int .i64 n] w fun e w' => e = .returned (.pointer none) ∧ w' = w := by
  rcases h with h | h
  · have d1 : decide (n < 1) = true := decide_eq_true h
    go_enter Try.func8, Try.ntmps8
    go_wp2
    go_ret
    exact ⟨rfl, rfl⟩
  · have d1 : decide (n < 1) = false := decide_eq_false (by omega)
    have d2 : decide (n > 4096) = true := decide_eq_true h
    have h1 : ¬ n < 1 := by omega
    go_enter Try.func8, Try.ntmps8
    go_wp2
    go_ret
    exact ⟨rfl, rfl⟩
theorem rnew_yes (n : Nat) (w : World) (h1 : 1 ≤ n) (h2 : n ≤ 4096) : Calls Try.prog 8 #[.int .i64 n] w fun e w' => e = .returned (.pointer (some ⟨w.heap.size, 0, none⟩)) ∧ Rf w.heap.size w' w.heap.size (.slice none 0 0) n [] ∧ Gr w w' := by
  have d1 : ¬ (n : Int) < 1 := by omega
  have d2 : ¬ (n : Int) > 4096 := by omega
  have R : Hid (Rf w.heap.size (w.alloc (.cells #[.int .i64 n, .slice none 0 0] 38)) w.heap.size (.slice none 0 0) n []) := ⟨Bk.new _ _ _, World.ownsRow_nil _ _ _ _, Nat.le_refl _⟩
  have G := hid0 ((Gr.refl w).alloc (.cells #[.int .i64 n, .slice none 0 0] 38))
  go_enter Try.func8, Try.ntmps8
  go_wp2
  go_ret
  exact ⟨rfl, R.out, G.out⟩
theorem rfirst_any {B : Nat} {w : World} {r : Nat} {v : Value} {most : Nat} {L : List Du} (R : Rf B w r v most L) :
    Calls Try.prog 27 #[.pointer (some ⟨r, 0, none⟩)] w fun e w' => e = .returned (.tuple #[dV (nth L 0), .bool (decide (0 < L.length))]) ∧ Gr w w' := by
  have g := (Gr.refl w).alloc (.cells #[.int .u32 0, .int .u32 0, .int .u32 0] 32)
  obtain ⟨c0, c1⟩ := (R.gr g).cells
  have S := (R.gr g).shape
  clear R
  have g := hid0 g
  rcases S with ⟨rfl, rfl⟩ | ⟨g1, cp, rfl, _, R, _⟩
  · go_enter Try.func27, Try.ntmps27
    go_wp2
    refine bodyPost_ret (v := .tuple #[dV (0, 0, 0), .bool false]) (by simp [results, Try.results27, go_sem]) rfl ⟨rfl, g.out⟩
  · by_cases h0 : L.length = 0
    · have := List.eq_nil_of_length_eq_zero h0
      subst this
      go_enter Try.func27, Try.ntmps27
      go_wp2
      refine bodyPost_ret (v := .tuple #[dV (0, 0, 0), .bool false]) (by simp [results, Try.results27, go_sem]) rfl ⟨rfl, g.out⟩
    · obtain ⟨p0, p1, p2⟩ := R.at.cell (show 0 < L.length by omega)
      have hd : decide (0 < L.length) = true := decide_eq_true (by omega)
      rw [hd]
      have h0' : ¬ ((L.length : Int) = 0) := by omega
      have h0'' : (0 : Int) < (L.length : Int) := by omega
      dsimp only [nth]
      generalize L.getD 0 (0, 0, 0) = x at *
      obtain ⟨xa, xo, xf⟩ := x
      simp only [Nat.zero_mul, Nat.zero_add] at p0 p1 p2
      have gE : Hid (Gr w (w.alloc (.cells #[.int .u32 xa, .int .u32 xo, .int .u32 xf] 32))) := (Gr.refl w).alloc _
      clear hd
      go_enter Try.func27, Try.ntmps27
      go_wp2
      refine bodyPost_ret (v := .tuple #[dV (xa, xo, xf), .bool true]) (by simp [results, Try.results27, go_sem]) rfl ⟨rfl, gE.out⟩
theorem rready_any {B : Nat} {w : World} {r : Nat} {v : Value} {most : Nat} {L : List Du} (R : Rf B w r v most L) (now : Int) :
    Calls Try.prog 29 #[.pointer (some ⟨r, 0, none⟩), .int .u32 now] w fun e w' => e = .returned (.bool (rdy L now)) ∧ w' = w := by
  obtain ⟨c0, c1⟩ := R.cells
  have S := R.shape
  clear R
  unfold rdy
  rcases S with ⟨rfl, rfl⟩ | ⟨g1, cp, rfl, _, R, _⟩
  · go_enter Try.func29, Try.ntmps29
    go_wp2
    go_ret
    exact ⟨rfl, rfl⟩
  · by_cases h0 : L.length = 0
    · have := List.eq_nil_of_length_eq_zero h0
      subst this
      go_enter Try.func29, Try.ntmps29
      go_wp2
      go_ret
      exact ⟨rfl, rfl⟩
    · obtain ⟨p0, p1, p2⟩ := R.at.cell (show 0 < L.length by omega)
      have hd : decide (0 < L.length) = true := decide_eq_true (by omega)
      rw [hd, Bool.true_and]
      have h0'' : (0 : Int) < (L.length : Int) := by omega
      have h0' : (L.length : Int) > 0 := h0''
      obtain ⟨x, hx⟩ : ∃ x, x = nth L 0 := ⟨_, rfl⟩
      rw [show decide ((nth L 0).1 ≤ now) = decide (x.1 ≤ now) by rw [hx]]
      rw [show L.getD 0 (0, 0, 0) = x from hx.symm] at p0 p1 p2
      clear hx
      obtain ⟨xa, xo, xf⟩ := x
      simp only [Nat.zero_mul, Nat.zero_add] at p0 p1 p2
      clear hd R
      go_enter Try.func29, Try.ntmps29
      go_wp2
      go_ret
      exact ⟨rfl, rfl⟩
end Go.Proofs.Ytaapdkjmlplhgaa
