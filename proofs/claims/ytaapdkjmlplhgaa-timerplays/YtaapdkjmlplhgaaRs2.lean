/- The document's own Set, where there is room. -/
import Derived.Test.YtaapdkjmlplhgaaRs
set_option linter.unusedSimpArgs false
set_option linter.unusedVariables false
namespace Go.Proofs.Ytaapdkjmlplhgaa
open Go.RowKit Go.Sort Go.Shelf

theorem own_alloc {w : World} {B : Nat} {v : Value} {n : Nat} {xs : List Value} {o : Obj} (h : w.ownsRow B 32 3 v n xs) : (w.alloc o).ownsRow B 32 3 v n xs := row_keep h (fun g e => Below.heap_alloc _ _ _ (row_lt h e).1)
set_option maxHeartbeats 4000000 in
set_option maxRecDepth 100000 in
theorem rset_ok {B : Nat} {w : World} {r : Nat} {v : Value} {most : Nat} {L : List Du} (R : Rf B w r v most L) (x : Du) (hno : ∀ y ∈ L, y.2 ≠ x.2) (hl : L.length ≤ 4096) (hf : L.length < most) :
    Calls Try.prog 13 #[.pointer (some ⟨r, 0, none⟩), dV x] w fun e w' => e = .returned (.int .i64 0) ∧ ∃ v', Rf B w' r v' most (insL x L) ∧ RCh r v' w w' := by
  obtain ⟨i0, hi, hz0, hz1, hz2⟩ := info_parts d_info
  have hBw : B ≤ w.heap.size := by have := R.lo; have := R.blk.lt; omega
  obtain ⟨xa, xo, xf⟩ := x
  have k3 := Bk.new w 32 [.int .u32 xa, .int .u32 xo, .int .u32 xf]
  have g0 := (Gr.refl w).alloc (.cells #[.int .u32 xa, .int .u32 xo, .int .u32 xf] 32)
  have R1 := R.gr g0
  have hrw := R.blk.lt
  have hvw := fun g e => (row_lt R.row (g := g) e).1
  clear R
  go_enter Try.func13, Try.ntmps13
  go_upto_region 1 with fail
  generalize w.alloc _ = W at *
  obtain ⟨b3, e3⟩ : ∃ b3, b3 = w.heap.size := ⟨_, rfl⟩
  rw [← e3] at k3 ⊢
  have hb3 : w.heap.size ≤ b3 := by omega
  clear e3
  have K3 := hid0 k3
  have RR := hid0 R1
  have G0 := hid0 g0
  clear k3 R1 g0
  go_wp2
  go_loopw [5] (fun i wr => ∃ k : Nat, k ≤ L.length ∧ i = .int .i64 k ∧ Hid (Gr W wr) ∧ Hid (∀ j, j < k → (nth L j).2 ≠ (xo, xf))) (fun i _ => L.length - (intOf i).toNat)
  case atStart => exact ⟨0, Nat.zero_le _, rfl, Gr.refl _, fun j h => by omega⟩
  case round =>
    obtain ⟨k, hk, rfl, hG, hN⟩ := hrel
    have R2 := RR.out.gr hG.out
    have k3 := K3.out.gr hG.out
    by_cases hlt : k < L.length
    · have hlt' : (k : Int) < (L.length : Int) := by omega
      obtain ⟨g, cp, rfl, _, RG, _⟩ : ∃ g cp, v = .slice (some ⟨g, 0, none⟩) L.length cp ∧ B ≤ g ∧ RowG wr g cp L ∧ L.length ≤ cp := by
        rcases R2.shape with ⟨_, h⟩ | h
        · subst h; simp at hlt
        · exact h
      have d1 := R2.cells.2
      have c1 := fun n => below_cell R2.cells.2 ((Gr.refl wr).drewN n).below
      have p1 := fun n => below_cell (RG.at.cell hlt).2.1 ((Gr.refl wr).drewN n).below
      have p2 := fun n => below_cell (RG.at.cell hlt).2.2 ((Gr.refl wr).drewN n).below
      have x1 := fun n => below_cell (k3.at 1) ((Gr.refl wr).drewN n).below
      have x2 := fun n => below_cell (k3.at 2) ((Gr.refl wr).drewN n).below
      rw [show L.getD k (0, 0, 0) = nth L k from rfl] at p1 p2
      have HE := hid0 (rfl : nth L k = nth L k)
      obtain ⟨y, hy⟩ : ∃ y, y = nth L k := ⟨_, rfl⟩
      rw [← hy] at p1 p2
      replace hy := hid0 hy
      clear RG R2 HE k3
      obtain ⟨ya, yo, yf⟩ := y
      dsimp only at p1 p2
      have HNx : Hid (yo = xo → yf = xf → False) → Hid (∀ j, j < k + 1 → (nth L j).2 ≠ (xo, xf)) := fun h j hj e => by
        by_cases ej : j = k
        · subst ej
          rw [← hy.out] at e
          simp only [Prod.mk.injEq] at e
          exact h.out e.1 e.2
        · exact hN.out j (by omega) e
      by_cases eo : yo = xo
      · subst eo
        by_cases ef : yf = xf
        · exfalso
          subst ef
          exact hno (nth L k) (mem_nth.2 ⟨k, hlt, rfl⟩) (by rw [← hy.out])
        · have H2 := HNx (fun _ h => ef h)
          clear HNx hN
          go_wp2_with fail
          go_quiet (fail)
          have G2 := hid0 (hG.out.drewN nq)
          clear c1 p1 p2 x1 x2
          go_wp2
          go_roundw
          case rel => exact ⟨k + 1, by omega, by go_num, G2, H2⟩
          case measure => simp [intOf]; omega
      · have H2 := HNx (fun h _ => eo h)
        clear HNx hN
        go_wp2_with fail
        go_quiet (fail)
        have G2 := hid0 (hG.out.drewN nq)
        clear c1 p1 p2 x1 x2
        go_wp2
        go_roundw
        case rel => exact ⟨k + 1, by omega, by go_num, G2, H2⟩
        case measure => simp [intOf]; omega
    · have hlt' : ¬ (k : Int) < (L.length : Int) := by omega
      clear hN
      obtain ⟨c0, c1⟩ := R2.cells
      have c0g := fun n => below_cell c0 ((Gr.refl wr).drewN n).below
      have c1g := fun n => below_cell c1 ((Gr.refl wr).drewN n).below
      have hff : ¬ (L.length : Int) ≥ (most : Int) := by omega
      replace hf := hid0 hf
      have S := R2.shape
      have hz : ∃ ao cp, v = .slice ao L.length cp := by
        rcases S with ⟨rfl, rfl⟩ | ⟨g, cp, rfl, _⟩
        · exact ⟨none, 0, rfl⟩
        · exact ⟨some ⟨g, 0, none⟩, cp, rfl⟩
      obtain ⟨ao, cpv, hv⟩ := hz
      rw [hv] at c1 c1g
      clear R2 k3 S
      go_wp2_with fail
      go_quiet (fail)
      have GA := (Gr.refl wr).drewN nq
      have R3 := hid0 ((RR.out.gr hG.out).gr GA)
      have K4 := hid0 ((K3.out.gr hG.out).gr GA)
      have BW2 : Hid (Below w.heap.size w (wr.drewN nq)) := (G0.out.trans (hG.out.trans GA)).below
      have hs2 : b3 + 1 ≤ (wr.drewN nq).heap.size := by have := K4.out.lt; omega
      clear c0 c1 c0g c1g hG GA RR K3 G0
      generalize wr.drewN nq = W2 at *
      have d2 := R3.out.cells.2
      rw [hv] at d2
      have hfn : ¬ most ≤ L.length := by have := hf.out; omega
      first
        | rw [show decide (most ≤ L.length) = false from decide_eq_false hfn]
        | rw [show decide ((most : Int) ≤ (L.length : Int)) = false from decide_eq_false (by omega)]
        | rw [show decide ((L.length : Int) ≥ (most : Int)) = false from decide_eq_false (by omega)]
      clear hff hfn
      go_wp2
      go_loopw [6, 7, 8] (fun o dn i wr => ∃ (k : Nat) (dB : Bool) (out : List Du), k ≤ L.length ∧ i = .int .i64 k ∧ dn = .bool dB ∧ Hid (Below (b3 + 1) W2 wr) ∧ Hid (wr.ownsRow (b3 + 1) 32 3 o out.length (flat out)) ∧ Hid (InsAt (xa, xo, xf) L k dB out)) (fun _ _ i _ => L.length - (intOf i).toNat)
      case atStart => exact ⟨0, false, [], Nat.zero_le _, rfl, rfl, Below.refl _ _, World.ownsRow_nil _ _ _ _, InsAt.zero _ _⟩
      case round =>
        clear d2
        obtain ⟨k, dB, out, hk, rfl, rfl, hB, hO, hI⟩ := hrel
        by_cases hlt : k < L.length
        · have hlt' : (k : Int) < (L.length : Int) := by omega
          have hol := hI.out.len hk
          have Rr := R3.out.keep (hB.out.block r (by omega)) (fun q e => hB.out.block q (by have := hvw q e; omega))
          have Kr := K4.out.mono hB.out (by omega)
          obtain ⟨gr, cpr, hvr, _, RGr, _⟩ : ∃ g cp, v = .slice (some ⟨g, 0, none⟩) L.length cp ∧ B ≤ g ∧ RowG wr g cp L ∧ L.length ≤ cp := by
            rcases Rr.shape with ⟨_, h⟩ | h
            · subst h; simp at hlt
            · exact h
          have dr := Rr.cells.2
          rw [hvr] at dr
          obtain ⟨y, hy⟩ : ∃ y, y = nth L k := ⟨_, rfl⟩
          replace hy := hid0 hy
          obtain ⟨ya, yo, yf⟩ := y
          cases dB with
          | false =>
            cases hlt2 : ltD (xa, xo, xf) (ya, yo, yf) with
            | true =>
              have c0 := cell_gr (Rr.cells.2)
              rw [hvr] at c0
              have p0 := cell_gr (RGr.at.cell hlt).1
              have p1 := cell_gr (RGr.at.cell hlt).2.1
              have p2 := cell_gr (RGr.at.cell hlt).2.2
              rw [show L.getD k (0, 0, 0) = nth L k from rfl, ← hy.out] at p0 p1 p2
              dsimp only at p0 p1 p2
              have x0 := cell_gr (Kr.at 0)
              have x1 := cell_gr (Kr.at 1)
              have x2 := cell_gr (Kr.at 2)
              have AH : Hid (∀ n os, Calls Try.prog 15 #[dV (xa, xo, xf), dV (ya, yo, yf)] (grow (wr.drewN n) os) fun e w' => e = .returned (.bool (ltD (xa, xo, xf) (ya, yo, yf))) ∧ ∃ p : GrownBy, w' = grow (wr.drewN p.n) p.os) := fun n os => calmG n os (ahead_any _ _ _)
              rw [hlt2] at AH
              go_wp2_with fail
              refine wp_region_quiet_grown (by kernel_rfl) (by kernel_rfl) ?_
              repeat (go_big_quiet_step (exact AH.out _ _))
              refine wpQuiet_nil ?_
              intro _ hw'
              obtain ⟨⟨nq, osq⟩, hw''⟩ := hw'
              subst hw''
              have gg : Gr wr (grow (wr.drewN nq) osq) := ⟨nq, osq, rfl⟩
              have B5 : Hid (Below (b3 + 1) W2 (grow (wr.drewN nq) osq)) := hB.out.trans (gg.below.mono (by have := hB.out.size; omega))
              have O5 : Hid ((grow (wr.drewN nq) osq).ownsRow (b3 + 1) 32 3 u6 out.length (flat out)) := row_keep hO.out (fun q e => gg.below.block _ (row_lt hO.out e).1)
              have hs5 : b3 + 1 ≤ (grow (wr.drewN nq) osq).heap.size := Nat.le_trans hs2 B5.out.size
              clear c0 p0 p1 p2 x0 x1 x2 AH gg hB hO Rr Kr RGr
              generalize grow (wr.drewN nq) osq = W5 at *
              have R5 := R3.out.keep (B5.out.block r (by omega)) (fun q e => B5.out.block q (by have := hvw q e; omega))
              have K5 := K4.out.mono B5.out (by omega)
              have x0 := K5.at 0
              have x1 := K5.at 1
              have x2 := K5.at 2
              simp only [List.getElem?_cons_zero, List.getElem?_cons_succ] at x0 x1 x2
              clear R5 K5
              go_wp2_with (at_builtin; refine wpList_append_own _ rfl (.tmp 74) (.tmp 76) 36 rfl (b3 + 1) 32 i0 (.agg #[.int .u32 0, .int .u32 0, .int .u32 0]) 3 12 Try.underlying36 hi hz0 hz1 hz2 rfl (by decide) _ out.length (flat out) rfl (own_alloc O5.out) ⟨_, 0, none⟩ 1 1 (dL (xa, xo, xf)) rfl rfl (by intro j u hj; rw [← hj, Addr.add_lit, Nat.zero_add]; exact (Bk.new _ 32 (dL (xa, xo, xf))).at j) (dL_cell _) (by unfold maxLen; omega) (by omega) (by simp; omega) ?_)
              intro sv6 w6 hown6 hgrow6 _
              have B6 : Hid (Below (b3 + 1) W2 w6) := (B5.out.alloc hs5 _).grown hgrow6 (by rw [World.size_alloc]; omega) (fun q e => (row_lt (O5.out) e).2.1)
              have O6 : Hid (w6.ownsRow (b3 + 1) 32 3 sv6 (out ++ [(xa, xo, xf)]).length (flat (out ++ [(xa, xo, xf)]))) := by
                have := hown6
                simp only [List.length_append, List.length_cons, List.length_nil, Nat.zero_add] at this ⊢
                rw [flat_app]
                exact this
              have hl6 : (out ++ [(xa, xo, xf)]).length = out.length + 1 := List.length_append
              have hs6 : b3 + 1 ≤ w6.heap.size := Nat.le_trans hs2 B6.out.size
              clear hown6 hgrow6 O5 B5
              clear x0 x1 x2 dr
              have R6 := R3.out.keep (B6.out.block r (by omega)) (fun q e => B6.out.block q (by have := hvw q e; omega))
              have K6 := K4.out.mono B6.out (by omega)
              obtain ⟨g6, cp6, hv6, _, RG6, _⟩ : ∃ g cp, v = .slice (some ⟨g, 0, none⟩) L.length cp ∧ B ≤ g ∧ RowG w6 g cp L ∧ L.length ≤ cp := by
                rcases R6.shape with ⟨_, h⟩ | h
                · subst h; simp at hlt
                · exact h
              have d1 := R6.cells.2
              rw [hv6] at d1
              obtain ⟨p0, p1, p2⟩ := RG6.at.cell hlt
              rw [show L.getD k (0, 0, 0) = nth L k from rfl, ← hy.out] at p0 p1 p2
              dsimp only at p0 p1 p2
              clear R6 K6 RG6
              go_wp2_with (at_builtin; refine wpList_append_own _ rfl (.tmp 78) (.tmp 86) 36 rfl (b3 + 1) 32 i0 (.agg #[.int .u32 0, .int .u32 0, .int .u32 0]) 3 12 Try.underlying36 hi hz0 hz1 hz2 rfl (by decide) _ (out ++ [(xa, xo, xf)]).length (flat (out ++ [(xa, xo, xf)])) rfl (own_alloc O6.out) ⟨_, 0, none⟩ 1 1 (dL (ya, yo, yf)) rfl rfl (by intro j u hj; rw [← hj, Addr.add_lit, Nat.zero_add]; exact (Bk.new _ 32 (dL (ya, yo, yf))).at j) (dL_cell _) (by unfold maxLen; omega) (by omega) (by simp; omega) ?_)
              intro sv8 w8 hown8 hgrow8 _
              have B8 : Hid (Below (b3 + 1) W2 w8) := (B6.out.alloc hs6 _).grown hgrow8 (by rw [World.size_alloc]; omega) (fun q e => (row_lt (O6.out) e).2.1)
              have O8 : Hid (w8.ownsRow (b3 + 1) 32 3 sv8 ((out ++ [(xa, xo, xf)]) ++ [(ya, yo, yf)]).length (flat ((out ++ [(xa, xo, xf)]) ++ [(ya, yo, yf)]))) := by
                have := hown8
                simp only [List.length_append, List.length_cons, List.length_nil, Nat.zero_add] at this ⊢
                rw [flat_app]
                exact this
              have hl8 : ((out ++ [(xa, xo, xf)]) ++ [(ya, yo, yf)]).length = (out ++ [(xa, xo, xf)]).length + 1 := List.length_append
              have hs8 : b3 + 1 ≤ w8.heap.size := Nat.le_trans hs2 B8.out.size
              clear hown8 hgrow8 O6 B6
              have I8 : Hid (InsAt (xa, xo, xf) L (k + 1) true ((out ++ [(xa, xo, xf)]) ++ [(ya, yo, yf)])) := by
                have := hI.out.here hlt (by rw [← hy.out]; exact hlt2)
                rw [← hy.out] at this
                exact this
              clear p0 p1 p2 d1 hI
              go_wp2
              go_roundw
              case rel => exact ⟨k + 1, _, _, by omega, by go_num, rfl, B8, O8, I8⟩
              case measure => simp [intOf]; omega
            | false =>
              have c0 := cell_gr (Rr.cells.2)
              rw [hvr] at c0
              have p0 := cell_gr (RGr.at.cell hlt).1
              have p1 := cell_gr (RGr.at.cell hlt).2.1
              have p2 := cell_gr (RGr.at.cell hlt).2.2
              rw [show L.getD k (0, 0, 0) = nth L k from rfl, ← hy.out] at p0 p1 p2
              dsimp only at p0 p1 p2
              have x0 := cell_gr (Kr.at 0)
              have x1 := cell_gr (Kr.at 1)
              have x2 := cell_gr (Kr.at 2)
              have AH : Hid (∀ n os, Calls Try.prog 15 #[dV (xa, xo, xf), dV (ya, yo, yf)] (grow (wr.drewN n) os) fun e w' => e = .returned (.bool (ltD (xa, xo, xf) (ya, yo, yf))) ∧ ∃ p : GrownBy, w' = grow (wr.drewN p.n) p.os) := fun n os => calmG n os (ahead_any _ _ _)
              rw [hlt2] at AH
              go_wp2_with fail
              refine wp_region_quiet_grown (by kernel_rfl) (by kernel_rfl) ?_
              repeat (go_big_quiet_step (exact AH.out _ _))
              refine wpQuiet_nil ?_
              intro _ hw'
              obtain ⟨⟨nq, osq⟩, hw''⟩ := hw'
              subst hw''
              have gg : Gr wr (grow (wr.drewN nq) osq) := ⟨nq, osq, rfl⟩
              have B5 : Hid (Below (b3 + 1) W2 (grow (wr.drewN nq) osq)) := hB.out.trans (gg.below.mono (by have := hB.out.size; omega))
              have O5 : Hid ((grow (wr.drewN nq) osq).ownsRow (b3 + 1) 32 3 u6 out.length (flat out)) := row_keep hO.out (fun q e => gg.below.block _ (row_lt hO.out e).1)
              have hs5 : b3 + 1 ≤ (grow (wr.drewN nq) osq).heap.size := Nat.le_trans hs2 B5.out.size
              clear c0 p0 p1 p2 x0 x1 x2 AH gg hB hO Rr Kr RGr
              generalize grow (wr.drewN nq) osq = W5 at *
              clear dr
              have R5 := R3.out.keep (B5.out.block r (by omega)) (fun q e => B5.out.block q (by have := hvw q e; omega))
              have K5 := K4.out.mono B5.out (by omega)
              obtain ⟨g5, cp5, hv5, _, RG5, _⟩ : ∃ g cp, v = .slice (some ⟨g, 0, none⟩) L.length cp ∧ B ≤ g ∧ RowG W5 g cp L ∧ L.length ≤ cp := by
                rcases R5.shape with ⟨_, h⟩ | h
                · subst h; simp at hlt
                · exact h
              have d1 := R5.cells.2
              rw [hv5] at d1
              obtain ⟨p0, p1, p2⟩ := RG5.at.cell hlt
              rw [show L.getD k (0, 0, 0) = nth L k from rfl, ← hy.out] at p0 p1 p2
              dsimp only at p0 p1 p2
              clear R5 K5 RG5
              go_wp2_with (at_builtin; refine wpList_append_own _ rfl (.tmp 78) (.tmp 86) 36 rfl (b3 + 1) 32 i0 (.agg #[.int .u32 0, .int .u32 0, .int .u32 0]) 3 12 Try.underlying36 hi hz0 hz1 hz2 rfl (by decide) _ out.length (flat out) rfl (own_alloc O5.out) ⟨_, 0, none⟩ 1 1 (dL (ya, yo, yf)) rfl rfl (by intro j u hj; rw [← hj, Addr.add_lit, Nat.zero_add]; exact (Bk.new _ 32 (dL (ya, yo, yf))).at j) (dL_cell _) (by unfold maxLen; omega) (by omega) (by simp; omega) ?_)
              intro sv8 w8 hown8 hgrow8 _
              have B8 : Hid (Below (b3 + 1) W2 w8) := (B5.out.alloc hs5 _).grown hgrow8 (by rw [World.size_alloc]; omega) (fun q e => (row_lt (O5.out) e).2.1)
              have O8 : Hid (w8.ownsRow (b3 + 1) 32 3 sv8 (out ++ [(ya, yo, yf)]).length (flat (out ++ [(ya, yo, yf)]))) := by
                have := hown8
                simp only [List.length_append, List.length_cons, List.length_nil, Nat.zero_add] at this ⊢
                rw [flat_app]
                exact this
              have hl8 : (out ++ [(ya, yo, yf)]).length = out.length + 1 := List.length_append
              have hs8 : b3 + 1 ≤ w8.heap.size := Nat.le_trans hs2 B8.out.size
              clear hown8 hgrow8 O5 B5
              have I8 : Hid (InsAt (xa, xo, xf) L (k + 1) false (out ++ [(ya, yo, yf)])) := by
                have := hI.out.past hlt (by rw [← hy.out]; exact hlt2)
                rw [← hy.out] at this
                exact this
              clear p0 p1 p2 d1 hI
              go_wp2
              go_roundw
              case rel => exact ⟨k + 1, _, _, by omega, by go_num, rfl, B8, O8, I8⟩
              case measure => simp [intOf]; omega
          | true =>
            have c0 := cell_gr (Rr.cells.2)
            rw [hvr] at c0
            have p0 := cell_gr (RGr.at.cell hlt).1
            have p1 := cell_gr (RGr.at.cell hlt).2.1
            have p2 := cell_gr (RGr.at.cell hlt).2.2
            rw [show L.getD k (0, 0, 0) = nth L k from rfl, ← hy.out] at p0 p1 p2
            dsimp only at p0 p1 p2
            have x0 := cell_gr (Kr.at 0)
            have x1 := cell_gr (Kr.at 1)
            have x2 := cell_gr (Kr.at 2)
            have AH : Hid (∀ n os, Calls Try.prog 15 #[dV (xa, xo, xf), dV (ya, yo, yf)] (grow (wr.drewN n) os) fun e w' => e = .returned (.bool (ltD (xa, xo, xf) (ya, yo, yf))) ∧ ∃ p : GrownBy, w' = grow (wr.drewN p.n) p.os) := fun n os => calmG n os (ahead_any _ _ _)
            clear AH
            go_wp2_with fail
            refine wp_region_quiet_grown (by kernel_rfl) (by kernel_rfl) ?_
            repeat (go_big_quiet_step (fail))
            refine wpQuiet_nil ?_
            intro _ hw'
            obtain ⟨⟨nq, osq⟩, hw''⟩ := hw'
            subst hw''
            have gg : Gr wr (grow (wr.drewN nq) osq) := ⟨nq, osq, rfl⟩
            have B5 : Hid (Below (b3 + 1) W2 (grow (wr.drewN nq) osq)) := hB.out.trans (gg.below.mono (by have := hB.out.size; omega))
            have O5 : Hid ((grow (wr.drewN nq) osq).ownsRow (b3 + 1) 32 3 u6 out.length (flat out)) := row_keep hO.out (fun q e => gg.below.block _ (row_lt hO.out e).1)
            have hs5 : b3 + 1 ≤ (grow (wr.drewN nq) osq).heap.size := Nat.le_trans hs2 B5.out.size
            clear c0 p0 p1 p2 x0 x1 x2  gg hB hO Rr Kr RGr
            generalize grow (wr.drewN nq) osq = W5 at *
            clear dr
            have R5 := R3.out.keep (B5.out.block r (by omega)) (fun q e => B5.out.block q (by have := hvw q e; omega))
            have K5 := K4.out.mono B5.out (by omega)
            obtain ⟨g5, cp5, hv5, _, RG5, _⟩ : ∃ g cp, v = .slice (some ⟨g, 0, none⟩) L.length cp ∧ B ≤ g ∧ RowG W5 g cp L ∧ L.length ≤ cp := by
              rcases R5.shape with ⟨_, h⟩ | h
              · subst h; simp at hlt
              · exact h
            have d1 := R5.cells.2
            rw [hv5] at d1
            obtain ⟨p0, p1, p2⟩ := RG5.at.cell hlt
            rw [show L.getD k (0, 0, 0) = nth L k from rfl, ← hy.out] at p0 p1 p2
            dsimp only at p0 p1 p2
            clear R5 K5 RG5
            go_wp2_with (at_builtin; refine wpList_append_own _ rfl (.tmp 78) (.tmp 86) 36 rfl (b3 + 1) 32 i0 (.agg #[.int .u32 0, .int .u32 0, .int .u32 0]) 3 12 Try.underlying36 hi hz0 hz1 hz2 rfl (by decide) _ out.length (flat out) rfl (own_alloc O5.out) ⟨_, 0, none⟩ 1 1 (dL (ya, yo, yf)) rfl rfl (by intro j u hj; rw [← hj, Addr.add_lit, Nat.zero_add]; exact (Bk.new _ 32 (dL (ya, yo, yf))).at j) (dL_cell _) (by unfold maxLen; omega) (by omega) (by simp; omega) ?_)
            intro sv8 w8 hown8 hgrow8 _
            have B8 : Hid (Below (b3 + 1) W2 w8) := (B5.out.alloc hs5 _).grown hgrow8 (by rw [World.size_alloc]; omega) (fun q e => (row_lt (O5.out) e).2.1)
            have O8 : Hid (w8.ownsRow (b3 + 1) 32 3 sv8 (out ++ [(ya, yo, yf)]).length (flat (out ++ [(ya, yo, yf)]))) := by
              have := hown8
              simp only [List.length_append, List.length_cons, List.length_nil, Nat.zero_add] at this ⊢
              rw [flat_app]
              exact this
            have hl8 : (out ++ [(ya, yo, yf)]).length = out.length + 1 := List.length_append
            have hs8 : b3 + 1 ≤ w8.heap.size := Nat.le_trans hs2 B8.out.size
            clear hown8 hgrow8 O5 B5
            have I8 : Hid (InsAt (xa, xo, xf) L (k + 1) true (out ++ [(ya, yo, yf)])) := by
              have := hI.out.on hlt
              rw [← hy.out] at this
              exact this
            clear p0 p1 p2 d1 hI
            go_wp2
            go_roundw
            case rel => exact ⟨k + 1, _, _, by omega, by go_num, rfl, B8, O8, I8⟩
            case measure => simp [intOf]; omega
        · have hlt' : ¬ (k : Int) < (L.length : Int) := by omega
          have ek : k = L.length := by omega
          have hol := hI.out.len hk
          have Rr := R3.out.keep (hB.out.block r (by omega)) (fun q e => hB.out.block q (by have := hvw q e; omega))
          have dr := Rr.cells.2
          rw [hv] at dr
          have B5 := hB
          have O5 := hO
          have hs5 : b3 + 1 ≤ wr.heap.size := Nat.le_trans hs2 B5.out.size
          rw [ek] at hI
          clear hB hO Rr
          cases dB with
          | false =>
            have EQ := hid0 hI.out.last
            clear hI
            have K5 := K4.out.mono B5.out (by omega)
            have x0 := K5.at 0
            have x1 := K5.at 1
            have x2 := K5.at 2
            simp only [List.getElem?_cons_zero, List.getElem?_cons_succ] at x0 x1 x2
            clear K5
            go_wp2_with (at_builtin; refine wpList_append_own _ rfl (.tmp 90) (.tmp 92) 36 rfl (b3 + 1) 32 i0 (.agg #[.int .u32 0, .int .u32 0, .int .u32 0]) 3 12 Try.underlying36 hi hz0 hz1 hz2 rfl (by decide) _ out.length (flat out) rfl (own_alloc O5.out) ⟨_, 0, none⟩ 1 1 (dL (xa, xo, xf)) rfl rfl (by intro j u hj; rw [← hj, Addr.add_lit, Nat.zero_add]; exact (Bk.new _ 32 (dL (xa, xo, xf))).at j) (dL_cell _) (by unfold maxLen; omega) (by omega) (by simp; omega) ?_)
            intro sv6 w6 hown6 hgrow6 _
            have B6 : Hid (Below (b3 + 1) W2 w6) := (B5.out.alloc hs5 _).grown hgrow6 (by rw [World.size_alloc]; omega) (fun q e => (row_lt (O5.out) e).2.1)
            have O6 : Hid (w6.ownsRow (b3 + 1) 32 3 sv6 (out ++ [(xa, xo, xf)]).length (flat (out ++ [(xa, xo, xf)]))) := by
              have := hown6
              simp only [List.length_append, List.length_cons, List.length_nil, Nat.zero_add] at this ⊢
              rw [flat_app]
              exact this
            have hl6 : (out ++ [(xa, xo, xf)]).length = out.length + 1 := List.length_append
            have hs6 : b3 + 1 ≤ w6.heap.size := Nat.le_trans hs2 B6.out.size
            clear hown6 hgrow6 O5 B5
            clear x0 x1 x2 dr
            obtain ⟨ao2, n2, c2, hsv⟩ : ∃ ao n c, sv6 = .slice ao n c := by
              rcases O6.out.2 with ⟨e, _⟩ | ⟨_, _, _, e, _⟩ <;> exact ⟨_, _, _, e⟩
            subst hsv
            have R6 := R3.out.keep (B6.out.block r (by omega)) (fun q e => B6.out.block q (by have := hvw q e; omega))
            have q0 := R6.blk.at 1
            have qf := R6.blk.frozen 1
            simp only [List.getElem?_cons_zero, List.getElem?_cons_succ] at q0
            have hrow : ∀ q, Value.ownBlock (.slice ao2 n2 c2) = some q → q ≠ r := fun q e => by have := (row_lt O6.out e).2.1; omega
            have FR : Hid (Rf B (w6.setCell ⟨r, 1, none⟩ (.slice ao2 n2 c2)) r (.slice ao2 n2 c2) most (insL (xa, xo, xf) L)) := by
              have kb := R6.blk.set 1 (.slice ao2 n2 c2)
              simp only [List.set_cons_zero, List.set_cons_succ] at kb
              refine ⟨kb, ?_, R6.lo⟩
              rw [← EQ.out]
              have := row_keep O6.out (w' := w6.setCell ⟨r, 1, none⟩ (.slice ao2 n2 c2)) (fun q e => Below.heap_setCell _ _ _ _ (hrow q e))
              refine ⟨this.1, ?_⟩
              rcases this.2 with h | ⟨q, c, cu, h1, h2, h3⟩
              · exact .inl h
              · exact .inr ⟨q, c, cu, h1, by omega, h3⟩
            have BWf : Below w.heap.size w w6 := BW2.out.trans (B6.out.mono (by omega))
            have FC : Hid (RCh r (.slice ao2 n2 c2) w (w6.setCell ⟨r, 1, none⟩ (.slice ao2 n2 c2))) :=
              ⟨(Chg.of_below BWf).trans (Chg.set (p := fun k => k = r) _ (a := ⟨r, 1, none⟩) rfl _), fun q e => by have := (row_lt O6.out e).2.1; omega⟩
            clear R6 B6 O6 hrow BWf
            go_wp2
            go_ret
            exact ⟨rfl, _, FR.out, FC.out⟩
          | true =>
            have EQ := hid0 hI.out.full
            clear hI
            clear dr
            obtain ⟨ao2, n2, c2, hsv⟩ : ∃ ao n c, u6 = .slice ao n c := by
              rcases O5.out.2 with ⟨e, _⟩ | ⟨_, _, _, e, _⟩ <;> exact ⟨_, _, _, e⟩
            subst hsv
            have R5 := R3.out.keep (B5.out.block r (by omega)) (fun q e => B5.out.block q (by have := hvw q e; omega))
            have q0 := R5.blk.at 1
            have qf := R5.blk.frozen 1
            simp only [List.getElem?_cons_zero, List.getElem?_cons_succ] at q0
            have hrow : ∀ q, Value.ownBlock (.slice ao2 n2 c2) = some q → q ≠ r := fun q e => by have := (row_lt O5.out e).2.1; omega
            have FR : Hid (Rf B (wr.setCell ⟨r, 1, none⟩ (.slice ao2 n2 c2)) r (.slice ao2 n2 c2) most (insL (xa, xo, xf) L)) := by
              have kb := R5.blk.set 1 (.slice ao2 n2 c2)
              simp only [List.set_cons_zero, List.set_cons_succ] at kb
              refine ⟨kb, ?_, R5.lo⟩
              rw [← EQ.out]
              have := row_keep O5.out (w' := wr.setCell ⟨r, 1, none⟩ (.slice ao2 n2 c2)) (fun q e => Below.heap_setCell _ _ _ _ (hrow q e))
              refine ⟨this.1, ?_⟩
              rcases this.2 with h | ⟨q, c, cu, h1, h2, h3⟩
              · exact .inl h
              · exact .inr ⟨q, c, cu, h1, by omega, h3⟩
            have BWf : Below w.heap.size w wr := BW2.out.trans (B5.out.mono (by omega))
            have FC : Hid (RCh r (.slice ao2 n2 c2) w (wr.setCell ⟨r, 1, none⟩ (.slice ao2 n2 c2))) :=
              ⟨(Chg.of_below BWf).trans (Chg.set (p := fun k => k = r) _ (a := ⟨r, 1, none⟩) rfl _), fun q e => by have := (row_lt O5.out e).2.1; omega⟩
            clear R5 B5 O5 hrow BWf
            go_wp2
            go_ret
            exact ⟨rfl, _, FR.out, FC.out⟩
end Go.Proofs.Ytaapdkjmlplhgaa
