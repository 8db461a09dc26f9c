/- The document's own Take. -/
import Derived.Test.YtaapdkjmlplhgaaRc
import Derived.Test.YtaapdkjmlplhgaaSy
set_option linter.unusedSimpArgs false
set_option linter.unusedVariables false
namespace Go.Proofs.Ytaapdkjmlplhgaa
open Go.RowKit Go.Sort Go.Shelf

theorem rtake_not {B : Nat} {w : World} {r : Nat} {v : Value} {most : Nat} {L : List Du} (R : Rf B w r v most L) (now : Int) (hr : rdy L now = false) :
    Calls Try.prog 30 #[.pointer (some ⟨r, 0, none⟩), .int .u32 now] w fun e w' => e = .returned (.tuple #[dV (0, 0, 0), .bool false]) ∧ Gr w w' := by
  have g := (Gr.refl w).alloc (.cells #[.int .u32 0, .int .u32 0, .int .u32 0] 32)
  have I := rready_any (R.gr g) now
  rw [hr] at I
  replace I := hid0 I
  have k := Bk.new w 32 (dL (0, 0, 0))
  have g := hid0 g
  clear R hr
  dsimp only [dL] at k
  go_enter Try.func30, Try.ntmps30
  go_upto_region 1 with fail
  generalize w.alloc _ = W at *
  obtain ⟨b, eb⟩ : ∃ b, b = w.heap.size := ⟨_, rfl⟩
  rw [← eb] at k ⊢
  have hb : w.heap.size ≤ b := by omega
  clear eb
  go_wp2_with fail
  refine I.out.mono ?_
  rintro e w1 ⟨rfl, hw⟩
  cases hw
  have f0 := k.frozen 0
  have f1 := k.frozen 1
  have f2 := k.frozen 2
  have q0 := k.at 0
  have q1 := k.at 1
  have q2 := k.at 2
  simp only [List.getElem?_cons_zero, List.getElem?_cons_succ] at q0 q1 q2
  have k2 := hid0 (put3_bk (x := (0, 0, 0)) (y := (0, 0, 0)) k)
  have g2 := hid0 (put3_gr (i := 0) (x := (0, 0, 0)) g.out hb)
  clear I g k
  go_wp2
  dsimp only [put3, Nat.zero_add] at k2 g2
  generalize World.setCell _ _ _ = X at *
  have k3 := k2.out
  have q0 := k3.at 0
  have q1 := k3.at 1
  have q2 := k3.at 2
  simp only [List.getElem?_cons_zero, List.getElem?_cons_succ] at q0 q1 q2
  refine bodyPost_ret (v := .tuple #[dV (0, 0, 0), .bool false]) (by simp [results, Try.results30, go_sem, q0, q1, q2]) rfl ⟨rfl, g2.out⟩
/-- All but the first, as it lies in the row. -/
theorem drop_cells {w : World} {g cp : Nat} {L : List Du} (h : RowG w g cp L) : ∀ j u, (flat (L.drop 1))[j]? = some u → w.cell? ((⟨g, 3, none⟩ : Addr).add j) = some u := by
  intro j u hj
  cases L with
  | nil => simp [flat] at hj
  | cons y t =>
    have := rowat_cells h.at (j + 3) u (by
      rw [flat_cons, List.getElem?_append_right (by simp [dL])]
      simpa [dL] using hj)
    rw [Addr.add_lit] at this ⊢
    rw [show 3 + j = 0 + (j + 3) by omega]
    exact this
set_option maxHeartbeats 2000000 in
set_option maxRecDepth 100000 in
theorem rtake_yes {B : Nat} {w : World} {r : Nat} {v : Value} {most : Nat} {L : List Du} (R : Rf B w r v most L) (now : Int) (hr : rdy L now = true) (hl : L.length ≤ 4096) :
    Calls Try.prog 30 #[.pointer (some ⟨r, 0, none⟩), .int .u32 now] w fun e w' => e = .returned (.tuple #[dV (nth L 0), .bool true]) ∧ ∃ v', Rf B w' r v' most (L.drop 1) ∧ RCh r v' w w' := by
  obtain ⟨i0, hi, hz0, hz1, hz2⟩ := info_parts d_info
  have h0 : 0 < L.length := by
    unfold rdy at hr
    simp only [Bool.and_eq_true, decide_eq_true_eq] at hr
    exact hr.1
  have hBw : B ≤ w.heap.size := by have := R.lo; have := R.blk.lt; omega
  have hrw := R.blk.lt
  have hvw := fun g e => (row_lt R.row (g := g) e).1
  have g := (Gr.refl w).alloc (.cells #[.int .u32 0, .int .u32 0, .int .u32 0] 32)
  have I := rready_any (R.gr g) now
  rw [hr] at I
  replace I := hid0 I
  have k := Bk.new w 32 (dL (0, 0, 0))
  have RR := hid0 (R.gr g)
  have g := hid0 g
  clear R hr
  dsimp only [dL] at k
  go_enter Try.func30, Try.ntmps30
  go_upto_region 1 with fail
  generalize w.alloc _ = W at *
  obtain ⟨b, eb⟩ : ∃ b, b = w.heap.size := ⟨_, rfl⟩
  rw [← eb] at k ⊢
  have hb : w.heap.size ≤ b := by omega
  clear eb
  go_wp2_with fail
  refine I.out.mono ?_
  rintro e w1 ⟨rfl, hw⟩
  cases hw
  clear I
  have hbW := k.lt
  obtain ⟨gr, cp, rfl, hBg, RG, hcp⟩ : ∃ g cp, v = .slice (some ⟨g, 0, none⟩) L.length cp ∧ B ≤ g ∧ RowG W g cp L ∧ L.length ≤ cp := by
    rcases RR.out.shape with ⟨_, h⟩ | h
    · subst h; simp at h0
    · exact h
  have dr := RR.out.cells.2
  obtain ⟨p0, p1, p2⟩ := RG.at.cell h0
  rw [show L.getD 0 (0, 0, 0) = nth L 0 from rfl] at p0 p1 p2
  simp only [Nat.zero_mul, Nat.zero_add] at p0 p1 p2
  generalize hx : nth L 0 = x at *
  obtain ⟨xa, xo, xf⟩ := x
  dsimp only at p0 p1 p2
  have h0' : (0 : Int) < (L.length : Int) := by omega
  have k6 := Bk.new W 32 (dL (xa, xo, xf))
  have g6 := (Gr.refl W).alloc (.cells #[.int .u32 xa, .int .u32 xo, .int .u32 xf] 32)
  have R6 := hid0 (RR.out.gr g6)
  have kk := hid0 (k.gr g6)
  have G6 := hid0 (g.out.trans g6)
  dsimp only [dL] at k6
  go_upto_region 4 with fail
  clear p0 p1 p2 dr RG RR k g6 g
  generalize W.alloc _ = W6 at *
  obtain ⟨b6, eb6⟩ : ∃ b6, b6 = W.heap.size := ⟨_, rfl⟩
  rw [← eb6] at k6 ⊢
  have hb6 : b < b6 := by omega
  clear eb6
  have RG : RowG W6 gr cp L := by
    rcases R6.out.shape with ⟨h, _⟩ | ⟨g', c', h, _, h2, _⟩
    · cases h
    · cases h; exact h2
  have d1 := R6.out.cells.2
  have hl1 : (1 : Int) ≤ (L.length : Int) := by omega
  have hl2 : (L.length : Int) ≤ (cp : Int) := by omega
  have hdc := hid0 (drop_cells RG)
  have hdl : (flat (L.drop 1)).length = (L.length - 1) * 3 := by rw [flat_len, List.length_drop]
  have hW6 : w.heap.size ≤ W6.heap.size := by have := k6.lt; omega
  clear RG
  by_cases hc1 : cp = 1
  · have hd0 : L.drop 1 = [] := List.drop_eq_nil_of_le (by omega)
    have hv0 : ∀ (a : Addr) j u, (flat (L.drop 1))[j]? = some u → W6.cell? (a.add j) = some u := by
      intro a j u hj
      rw [hd0] at hj
      simp [flat] at hj
    replace hd0 := hid0 hd0
    replace hv0 := hid0 hv0
    go_wp2_with (at_builtin; refine wpList_append_own _ rfl (.tmp 20) (.tmp 25) 36 rfl W6.heap.size 32 i0 (.agg #[.int .u32 0, .int .u32 0, .int .u32 0]) 3 12 Try.underlying36 hi hz0 hz1 hz2 rfl (by decide) (.slice none 0 0) 0 [] rfl (World.ownsRow_nil _ _ _ _) _ (L.length - 1) _ (flat (L.drop 1)) rfl hdl (hv0.out _) (flat_cell _) (by unfold maxLen; omega) (by omega) (Nat.le_refl _) ?_)
    intro v' w7 hown hgrow _
    have hown : w7.ownsRow W6.heap.size 32 3 v' (L.drop 1).length (flat (L.drop 1)) := by
      have := hown
      rw [List.length_drop, List.drop_one]
      exact this
    have C7 : Chg (fun _ => False) W6 w7 := Chg.grown0 hgrow
    have R7 := R6.out.keep (C7.block r R6.out.blk.lt (fun e => e)) (fun q e => C7.block q (row_lt R6.out.row e).1 (fun e => e))
    have k7 := kk.out.chg C7 (fun e => e)
    have k67 := k6.chg C7 (fun e => e)
    obtain ⟨ao2, n2, c2, hsv⟩ : ∃ ao n c, v' = .slice ao n c := by
      rcases hown.2 with ⟨e, _⟩ | ⟨_, _, _, e, _⟩ <;> exact ⟨_, _, _, e⟩
    subst hsv
    have q0 := R7.blk.at 1
    have qf := R7.blk.frozen 1
    simp only [List.getElem?_cons_zero, List.getElem?_cons_succ] at q0
    have hbb : b6 < W6.heap.size := k6.lt
    have hrow : ∀ q, Value.ownBlock (.slice ao2 n2 c2) = some q → q ≠ r ∧ q ≠ b := fun q e => by have := (row_lt hown e).2.1; have := R6.out.blk.lt; omega
    have FR : Rf B (w7.setCell ⟨r, 1, none⟩ (.slice ao2 n2 c2)) r (.slice ao2 n2 c2) most (L.drop 1) := by
      have kb := R7.blk.set 1 (.slice ao2 n2 c2)
      simp only [List.set_cons_zero, List.set_cons_succ] at kb
      refine ⟨kb, ?_, R7.lo⟩
      have := row_keep hown (w' := w7.setCell ⟨r, 1, none⟩ (.slice ao2 n2 c2)) (fun q e => Below.heap_setCell _ _ _ _ (hrow q e).1)
      refine ⟨this.1, ?_⟩
      rcases this.2 with h | ⟨q, c, cu, h1, h2, h3⟩
      · exact .inl h
      · exact .inr ⟨q, c, cu, h1, by omega, h3⟩
    have k8 : Bk (w7.setCell ⟨r, 1, none⟩ (.slice ao2 n2 c2)) b 32 [.int .u32 0, .int .u32 0, .int .u32 0] := k7.other (by show b ≠ r; omega) _
    have k68 : Bk (w7.setCell ⟨r, 1, none⟩ (.slice ao2 n2 c2)) b6 32 [.int .u32 xa, .int .u32 xo, .int .u32 xf] := k67.other (by show b6 ≠ r; omega) _
    have FR2 := hid0 (FR.keep (w' := put3 (w7.setCell ⟨r, 1, none⟩ (.slice ao2 n2 c2)) b 0 (xa, xo, xf)) (put3_other (by omega)) (fun q e => put3_other (hrow q e).2))
    have FC : Hid (RCh r (.slice ao2 n2 c2) w (put3 (w7.setCell ⟨r, 1, none⟩ (.slice ao2 n2 c2)) b 0 (xa, xo, xf))) :=
      ⟨(((Chg.of_gr (p := fun k => k = r) G6.out).next C7 (fun j _ h => h.elim)).trans (Chg.set (p := fun k => k = r) _ (a := ⟨r, 1, none⟩) rfl _)).next (put3_chg (p := fun j => j = b) (Chg.refl _ _) rfl) (fun j hj e => by omega), fun q e => by have := (row_lt hown e).2.1; omega⟩
    have y0 := k8.at 0
    have y1 := k8.at 1
    have y2 := k8.at 2
    have z0 := k68.at 0
    have z1 := k68.at 1
    have z2 := k68.at 2
    have f0 := k8.frozen 0
    have f1 := k8.frozen 1
    have f2 := k8.frozen 2
    simp only [List.getElem?_cons_zero, List.getElem?_cons_succ] at y0 y1 y2 z0 z1 z2
    have k9 := hid0 (put3_bk (x := (xa, xo, xf)) (y := (0, 0, 0)) k8)
    have hx := hid0 hx
    clear hown hgrow C7 R7 R6 G6 k7 k67 hrow FR k8 k68 k6 kk d1 hdc
    go_wp2
    clear y0 y1 y2 z0 z1 z2 f0 f1 f2 q0 qf
    dsimp only [put3, Nat.zero_add] at k9 FR2 FC
    generalize World.setCell _ _ _ = X at *
    have k3 := k9.out
    have q0 := k3.at 0
    have q1 := k3.at 1
    have q2 := k3.at 2
    simp only [List.getElem?_cons_zero, List.getElem?_cons_succ] at q0 q1 q2
    rw [hx.out]
    exact bodyPost_ret (v := .tuple #[dV (xa, xo, xf), .bool true]) (by simp [results, Try.results30, go_sem, q0, q1, q2]) rfl ⟨rfl, _, FR2.out, FC.out⟩
  · skip
    go_wp2_with (at_builtin; refine wpList_append_own _ rfl (.tmp 20) (.tmp 25) 36 rfl W6.heap.size 32 i0 (.agg #[.int .u32 0, .int .u32 0, .int .u32 0]) 3 12 Try.underlying36 hi hz0 hz1 hz2 rfl (by decide) (.slice none 0 0) 0 [] rfl (World.ownsRow_nil _ _ _ _) ⟨gr, 3, none⟩ (L.length - 1) (cp - 1) (flat (L.drop 1)) rfl hdl hdc.out (flat_cell _) (by unfold maxLen; omega) (by omega) (Nat.le_refl _) ?_)
    intro v' w7 hown hgrow _
    have hown : w7.ownsRow W6.heap.size 32 3 v' (L.drop 1).length (flat (L.drop 1)) := by
      have := hown
      rw [List.length_drop, List.drop_one]
      exact this
    have C7 : Chg (fun _ => False) W6 w7 := Chg.grown0 hgrow
    have R7 := R6.out.keep (C7.block r R6.out.blk.lt (fun e => e)) (fun q e => C7.block q (row_lt R6.out.row e).1 (fun e => e))
    have k7 := kk.out.chg C7 (fun e => e)
    have k67 := k6.chg C7 (fun e => e)
    obtain ⟨ao2, n2, c2, hsv⟩ : ∃ ao n c, v' = .slice ao n c := by
      rcases hown.2 with ⟨e, _⟩ | ⟨_, _, _, e, _⟩ <;> exact ⟨_, _, _, e⟩
    subst hsv
    have q0 := R7.blk.at 1
    have qf := R7.blk.frozen 1
    simp only [List.getElem?_cons_zero, List.getElem?_cons_succ] at q0
    have hbb : b6 < W6.heap.size := k6.lt
    have hrow : ∀ q, Value.ownBlock (.slice ao2 n2 c2) = some q → q ≠ r ∧ q ≠ b := fun q e => by have := (row_lt hown e).2.1; have := R6.out.blk.lt; omega
    have FR : Rf B (w7.setCell ⟨r, 1, none⟩ (.slice ao2 n2 c2)) r (.slice ao2 n2 c2) most (L.drop 1) := by
      have kb := R7.blk.set 1 (.slice ao2 n2 c2)
      simp only [List.set_cons_zero, List.set_cons_succ] at kb
      refine ⟨kb, ?_, R7.lo⟩
      have := row_keep hown (w' := w7.setCell ⟨r, 1, none⟩ (.slice ao2 n2 c2)) (fun q e => Below.heap_setCell _ _ _ _ (hrow q e).1)
      refine ⟨this.1, ?_⟩
      rcases this.2 with h | ⟨q, c, cu, h1, h2, h3⟩
      · exact .inl h
      · exact .inr ⟨q, c, cu, h1, by omega, h3⟩
    have k8 : Bk (w7.setCell ⟨r, 1, none⟩ (.slice ao2 n2 c2)) b 32 [.int .u32 0, .int .u32 0, .int .u32 0] := k7.other (by show b ≠ r; omega) _
    have k68 : Bk (w7.setCell ⟨r, 1, none⟩ (.slice ao2 n2 c2)) b6 32 [.int .u32 xa, .int .u32 xo, .int .u32 xf] := k67.other (by show b6 ≠ r; omega) _
    have FR2 := hid0 (FR.keep (w' := put3 (w7.setCell ⟨r, 1, none⟩ (.slice ao2 n2 c2)) b 0 (xa, xo, xf)) (put3_other (by omega)) (fun q e => put3_other (hrow q e).2))
    have FC : Hid (RCh r (.slice ao2 n2 c2) w (put3 (w7.setCell ⟨r, 1, none⟩ (.slice ao2 n2 c2)) b 0 (xa, xo, xf))) :=
      ⟨(((Chg.of_gr (p := fun k => k = r) G6.out).next C7 (fun j _ h => h.elim)).trans (Chg.set (p := fun k => k = r) _ (a := ⟨r, 1, none⟩) rfl _)).next (put3_chg (p := fun j => j = b) (Chg.refl _ _) rfl) (fun j hj e => by omega), fun q e => by have := (row_lt hown e).2.1; omega⟩
    have y0 := k8.at 0
    have y1 := k8.at 1
    have y2 := k8.at 2
    have z0 := k68.at 0
    have z1 := k68.at 1
    have z2 := k68.at 2
    have f0 := k8.frozen 0
    have f1 := k8.frozen 1
    have f2 := k8.frozen 2
    simp only [List.getElem?_cons_zero, List.getElem?_cons_succ] at y0 y1 y2 z0 z1 z2
    have k9 := hid0 (put3_bk (x := (xa, xo, xf)) (y := (0, 0, 0)) k8)
    have hx := hid0 hx
    clear hown hgrow C7 R7 R6 G6 k7 k67 hrow FR k8 k68 k6 kk d1 hdc
    go_wp2
    clear y0 y1 y2 z0 z1 z2 f0 f1 f2 q0 qf
    dsimp only [put3, Nat.zero_add] at k9 FR2 FC
    generalize World.setCell _ _ _ = X at *
    have k3 := k9.out
    have q0 := k3.at 0
    have q1 := k3.at 1
    have q2 := k3.at 2
    simp only [List.getElem?_cons_zero, List.getElem?_cons_succ] at q0 q1 q2
    rw [hx.out]
    exact bodyPost_ret (v := .tuple #[dV (xa, xo, xf), .bool true]) (by simp [results, Try.results30, go_sem, q0, q1, q2]) rfl ⟨rfl, _, FR2.out, FC.out⟩
end Go.Proofs.Ytaapdkjmlplhgaa
