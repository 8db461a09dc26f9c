/- The program's Has, and the reference's. -/
import Derived.Test.YtljdnahomhbenaaHuS
import Derived.Test.YtljdnahomhbenaaSp
namespace Go.Proofs.Ytljdnahomhbenaa
section
set_option linter.unusedSimpArgs false
open Go.RowKit Go.Sort Go.Lib Go.Shelf

theorem cAt_k {h : List (Int × Int)} {k : Nat} (hk : k < h.length) : cAt h (k + 1 + h.length - 1) = h.getD k (0, 0) := by
  rw [show k + 1 + h.length - 1 = k + h.length by omega]
  unfold cAt
  rw [Nat.add_mod_right, Nat.mod_eq_of_lt hk]
theorem cAt_0 {h : List (Int × Int)} (hn : 0 < h.length) : cAt h (0 + h.length - 1) = h.getD (h.length - 1) (0, 0) := by
  unfold cAt
  rw [Nat.zero_add, Nat.mod_eq_of_lt (by omega)]
theorem cAt_self {h : List (Int × Int)} {k : Nat} (hk : k < h.length) : cAt h k = h.getD k (0, 0) := by
  unfold cAt
  rw [Nat.mod_eq_of_lt hk]
theorem pt_cells {w : World} {b : Nat} {x y : Value} (h : w.heap[b]? = some (.cells #[x, y] 28 (0, 0))) : w.cell? ⟨b, 0, none⟩ = some x ∧ w.cell? ⟨b, 1, none⟩ = some y ∧ w.frozen? ⟨b, 0, none⟩ = false ∧ w.frozen? ⟨b, 1, none⟩ = false := by
  refine ⟨by simp [World.cell?, h], by simp [World.cell?, h], by simp [World.frozen?, h], by simp [World.frozen?, h]⟩

theorem cell_below2 {W wr : World} {B : Nat} {a : Addr} {v : Value} (h : W.cell? a = some v) (hb : Below B W wr) (ha : a.block < B) : wr.cell? a = some v := by
  rw [← h]
  unfold World.cell?
  rw [hb.block a.block ha]
theorem set_two {w : World} {b : Nat} {x y : Value} (h : w.heap[b]? = some (.cells #[x, y] 28 (0, 0))) (u v : Value) : ((w.setCell ⟨b, 0, none⟩ u).setCell ⟨b, 1, none⟩ v).heap[b]? = some (.cells #[u, v] 28 (0, 0)) := by
  have e1 := setCell_eq_setRow w b 0 #[x, y] 28 (0, 0) u h
  have h1 := setRow_heap w b #[x, y] (#[x, y].setIfInBounds 0 u) 28 (0, 0) h
  rw [← e1] at h1
  have e2 := setCell_eq_setRow (w.setCell ⟨b, 0, none⟩ u) b 1 _ 28 (0, 0) v h1
  have h2 := setRow_heap (w.setCell ⟨b, 0, none⟩ u) b _ ((#[x, y].setIfInBounds 0 u).setIfInBounds 1 v) 28 (0, 0) h1
  rw [← e2] at h2
  simpa using h2

set_option maxRecDepth 20000 in
set_option maxHeartbeats 8000000 in
theorem leftall_any (vo : Option Addr) (cv : Nat) (l : List (Int × Int)) (p : Int × Int) (w : World) (hl : l.length ≤ 17592186043904) (hn : 1 ≤ l.length) (h32 : ∀ q ∈ l, in2 q) (hp : in2 p) (hP : Pts w vo l) :
    Calls Try.prog 34 #[.slice vo l.length cv, pt p.1 p.2] w fun e w' => e = .returned (.bool (leftB l p)) ∧ Below w.heap.size w w' := by
  have HP := hid0 hP
  have H32 := hid0 h32
  have HPp := hid0 hp
  have HF : Hid (∀ r, (r = true ↔ ∀ i, i < l.length → ¬ crT (cAt l (i + l.length - 1)) (cAt l i) p < 0) → leftB l p = r) := fun r h => by
    unfold leftB
    rw [Bool.eq_iff_iff, decide_eq_true_eq]
    exact h.symm
  obtain ⟨F, hFe⟩ : ∃ F, leftB l p = F := ⟨_, rfl⟩
  rw [hFe] at HF ⊢
  clear hFe hP h32 hp
  obtain ⟨b, off, rfl, z0, z1⟩ := HP.out (l.length - 1) (by omega)
  have hz : Hid (in2 (l.getD (l.length - 1) (0, 0))) := H32.out _ (by rw [getD_eq _ _ (by omega)]; exact List.getElem_mem _)
  have HZ := hid0 (cAt_0 (h := l) (by omega))
  obtain ⟨z, hze⟩ : ∃ z, z = l.getD (l.length - 1) (0, 0) := ⟨_, rfl⟩
  rw [← hze] at z0 z1 hz HZ
  clear hze
  have z0' := below_cell z0 ((Gr.refl w).alloc (.cells #[.int .i32 p.1, .int .i32 p.2] 28)).below
  have z1' := below_cell z1 ((Gr.refl w).alloc (.cells #[.int .i32 p.1, .int .i32 p.2] 28)).below
  obtain ⟨W, hW, x0, x1, y0, y1, gW⟩ := two_new w (.int .i32 p.1) (.int .i32 p.2) (.int .i32 z.1) (.int .i32 z.2)
  have HPW := hid0 (HP.out.mono gW)
  have hBz : W.heap[w.heap.size + 1]? = some (.cells #[.int .i32 z.1, .int .i32 z.2] 28 (0, 0)) := by
    rw [hW]
    have e : (w.alloc (.cells #[.int .i32 p.1, .int .i32 p.2] 28)).heap.size = w.heap.size + 1 := by simp
    have := heap_alloc_new (w.alloc (.cells #[.int .i32 p.1, .int .i32 p.2] 28)) (.cells #[.int .i32 z.1, .int .i32 z.2] 28)
    rw [e] at this
    exact this
  have hWs : W.heap.size = w.heap.size + 2 := by rw [hW]; simp
  have hbl : b < w.heap.size := World.block_lt_of_cell? _ _ z0
  clear HP z0 z1 y0 y1
  go_enter Try.func34, Try.ntmps34
  go_upto_region 2 with fail
  rw [← hW]
  clear hW z0' z1'
  obtain ⟨B1, hB1⟩ : ∃ B1, B1 = w.heap.size := ⟨_, rfl⟩
  rw [← hB1] at x0 x1 hBz hWs hbl ⊢
  have HB1 := hid0 hB1
  clear hB1
  go_wp2
  go_loopw [16] (fun i wr => ∃ (k : Nat) (f : Int × Int), k ≤ l.length ∧ i = .int .i64 k ∧ Hid (f = cAt l (k + l.length - 1)) ∧ Hid (in2 f) ∧ Hid (∀ j, j < k → 0 ≤ crT (cAt l (j + l.length - 1)) (cAt l j) p) ∧ wr.heap[B1 + 1]? = some (.cells #[.int .i32 f.1, .int .i32 f.2] 28 (0, 0)) ∧ Below (B1 + 1) W wr) (fun i _ => l.length - (intOf i).toNat)
  case atStart => exact ⟨0, z, by omega, rfl, HZ.out.symm, hz, (by intro j hj; omega), hBz, Below.refl _ _⟩
  case round =>
    clear hBz
    obtain ⟨k, f, hk, rfl, hf, hf2, hE, hBf, hb⟩ := hrel
    by_cases hlt : k < l.length
    · obtain ⟨b', off', eb, q0, q1⟩ := HPW.out k hlt
      cases eb
      have q0' := cell_below2 q0 hb (by show b < B1 + 1; omega)
      have q1' := cell_below2 q1 hb (by show b < B1 + 1; omega)
      have a0 := cell_below2 x0 hb (by show B1 < B1 + 1; omega)
      have a1 := cell_below2 x1 hb (by show B1 < B1 + 1; omega)
      have hq : Hid (in2 (l.getD k (0, 0))) := H32.out _ (by rw [getD_eq _ _ hlt]; exact List.getElem_mem _)
      have HQ := hid0 (cAt_self hlt)
      have HQ2 := hid0 (cAt_k hlt)
      obtain ⟨q, hqe⟩ : ∃ q, q = l.getD k (0, 0) := ⟨_, rfl⟩
      rw [← hqe] at q0' q1' hq HQ HQ2
      clear hqe q0 q1
      have HF' : Hid (crT f q p < 0 → F = false) := fun h => HF.out false (by
        simp only [Bool.false_eq_true, false_iff]
        intro x
        have := x k hlt
        rw [← hf.out, HQ.out] at this
        omega)
      have HE' : Hid (0 ≤ crT f q p → ∀ j, j < k + 1 → 0 ≤ crT (cAt l (j + l.length - 1)) (cAt l j) p) := fun e j hj => by
        by_cases c : j = k
        · subst c; rw [← hf.out, HQ.out]; exact e
        · exact hE.out j (by omega)
      have T : Hid (∀ W, Calls Try.prog 63 #[pt f.1 f.2, pt q.1 q.2, pt p.1 p.2] W fun e w' => e = .returned (.int .i64 (crT f q p)) ∧ Gr W w') := fun W => turn_any f.1 f.2 q.1 q.2 p.1 p.2 hf2.out.1 hf2.out.2 hq.out.1 hq.out.2 HPp.out.1 HPp.out.2 W
      obtain ⟨t, hte⟩ : ∃ t, t = crT f q p := ⟨_, rfl⟩
      rw [← hte] at T HF' HE'
      clear hte hE hf
      have hsz := hb.size
      go_upto_region 5 with fail
      have hB7 := heap_alloc_new wr (.cells #[.int .i32 q.1, .int .i32 q.2] 28)
      have gA := (Gr.refl wr).alloc (.cells #[.int .i32 q.1, .int .i32 q.2] 28)
      obtain ⟨b7, hb7⟩ : ∃ b7, b7 = wr.heap.size := ⟨_, rfl⟩
      have hBf2 := (gA.below.block (B1 + 1) (lt_of_block hBf)).trans hBf
      have a0' := below_cell a0 gA.below
      have a1' := below_cell a1 gA.below
      have hb2 := hb.trans (gA.below.mono (show B1 + 1 ≤ wr.heap.size by omega))
      rw [← hb7] at hB7 ⊢
      have hb7' : B1 + 1 < b7 := by omega
      clear hBf a0 a1 q0' q1' hb hb7 hsz gA
      generalize wr.alloc (.cells #[.int .i32 q.1, .int .i32 q.2] 28) = W7 at *
      obtain ⟨f0, f1, _, _⟩ := pt_cells hBf2
      obtain ⟨c0, c1, _, _⟩ := pt_cells hB7
      go_wp2_with fail
      refine (T.out _).mono ?_
      rintro e w8 ⟨rfl, g8⟩
      have hB8 := (g8.below.block b7 (lt_of_block hB7)).trans hB7
      have hBf8 := (g8.below.block (B1 + 1) (lt_of_block hBf2)).trans hBf2
      have hb8 := hb2.trans (g8.below.mono (show B1 + 1 ≤ W7.heap.size by have := lt_of_block hBf2; omega))
      clear g8 f0 f1 c0 c1 hB7 hBf2 hb2 a0' a1' T
      obtain ⟨f0, f1, ff0, ff1⟩ := pt_cells hBf8
      obtain ⟨c0, c1, _, _⟩ := pt_cells hB8
      by_cases ht : t < 0
      · have hF := HF'.out ht
        subst hF
        have d1 : decide (t < 0) = true := decide_eq_true ht
        go_wp2
        go_ret
        exact ⟨rfl, gW.trans (hb8.mono (by have := HB1.out; omega))⟩
      · have E2 : Hid (∀ j, j < k + 1 → 0 ≤ crT (cAt l (j + l.length - 1)) (cAt l j) p) := HE'.out (by omega)
        have d1 : decide (t < 0) = false := decide_eq_false ht
        clear HE' HF'
        go_wp2
        go_roundw
        case rel =>
          refine ⟨k + 1, q, by omega, by go_num, HQ2.out.symm, hq, E2, ?_, (hb8.setCell (Nat.le_refl _) _).setCell (Nat.le_refl _) _⟩
          exact set_two hBf8 _ _
        case measure => simp [intOf]; omega
    · have hF := HF.out true (by
        refine ⟨fun _ j hj => by have := hE.out j (by omega); omega, fun _ => rfl⟩)
      subst hF
      go_wp2
      go_ret
      exact ⟨rfl, gW.trans (hb.mono (by have := HB1.out; omega))⟩
end
end Go.Proofs.Ytljdnahomhbenaa
