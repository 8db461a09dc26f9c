/- The sectors, read. -/
import Derived.Test.YtgdmbcfjjdngdaaDoorFr
import Derived.Test.YtgdmbcfjjdngdaaDoorHg
import Derived.Lib.LaidU8
set_option linter.unusedSimpArgs false
namespace Go.Proofs.YtgdmbcfjjdngdaaDoor
open Go.ChangeShapes Go.WideShapes Go.ChangeAt Go.RowKit Go.Joins

theorem Tryd.cells3 : Tryd.prog.cellsOf 3 = 1 := by kernel_rfl
theorem Tryd.cells56 : Tryd.prog.cellsOf 56 = 3 := by kernel_rfl
theorem Tryd.cells57 : Tryd.prog.cellsOf 57 = 9 := by kernel_rfl
theorem sec_rows {H : Type} {z0 z1 z2 : List Int} {y0 y1 y2 : DataW H × List MemPlace} {p q : List MemPlace}
    (h : ((.agg [Lib.tabData .i64 z0, Lib.tabData .i64 z1, Lib.tabData .i64 z2], p) : DataW H × List MemPlace) = (.agg [y0.1, y1.1, y2.1], q)) :
    y0.1 = Lib.tabData .i64 z0 ∧ y1.1 = Lib.tabData .i64 z1 ∧ y2.1 = Lib.tabData .i64 z2 := by
  simp only [Prod.mk.injEq, DataW.agg.injEq, List.cons.injEq, and_true] at h
  exact ⟨h.1.1.symm, h.1.2.1.symm, h.1.2.2.symm⟩
set_option maxRecDepth 100000 in
theorem sec_of_reads {W : World} (h : Lib.VarReads Tryd.prog W "paddock/track.sectors" Rows.laid_paddock_track_sectors) : Sec W := by
  obtain ⟨g, t, cs, fuel, p, h1, h2, h3, h4⟩ := h
  have hg : Tryd.prog.globalNamed "paddock/track.sectors" = some 1 := by kernel_rfl
  obtain rfl : g = 1 := by rw [hg] at h1; exact (Option.some.inj h1).symm
  obtain rfl : t = 57 := by
    rw [show (Tryd.prog.globals[1]?).map (·.type) = some 57 by kernel_rfl] at h2
    exact (Option.some.inj h2).symm
  obtain ⟨xs, m, _, hx, hlen, hl, hi⟩ := DataW.trod_array Tryd.underlying57 h4
  match xs, hl with
  | [y0, y1, y2], _ =>
    obtain ⟨e0, e1, e2⟩ := sec_rows (z0 := [5, 6, 7]) (z1 := [4, -1, 0]) (z2 := [3, 2, 1]) hx
    have t0 := hi 0 (by decide)
    have t1 := hi 1 (by decide)
    have t2 := hi 2 (by decide)
    simp only [Tryd.cells56, List.getElem?_cons_zero, List.getElem?_cons_succ] at t0 t1 t2
    obtain ⟨d0, p0⟩ := y0
    obtain ⟨d1, p1⟩ := y1
    obtain ⟨d2, p2⟩ := y2
    simp only at e0 e1 e2
    subst e0 e1 e2
    have c0 := Lib.cells_of_tab Tryd.underlying56 Tryd.underlying3 Tryd.cells3 Tryd.cells56 t0
    have c1 := Lib.cells_of_tab Tryd.underlying56 Tryd.underlying3 Tryd.cells3 Tryd.cells56 t1
    have c2 := Lib.cells_of_tab Tryd.underlying56 Tryd.underlying3 Tryd.cells3 Tryd.cells56 t2
    have hc : cs.toList.length = 9 := hlen.trans Tryd.cells57
    obtain ⟨cs⟩ := cs
    match cs, hc with
    | [a0, a1, a2, b0, b1, b2, k0, k1, k2], _ =>
      simp at c0 c1 c2
      obtain ⟨rfl, rfl, rfl⟩ := c0
      obtain ⟨rfl, rfl, rfl⟩ := c1
      obtain ⟨rfl, rfl, rfl⟩ := c2
      intro r c hr hc
      have := World.var?_cell hg h3 (r * 3 + c)
      rw [this]
      have : (r = 0 ∨ r = 1 ∨ r = 2) ∧ (c = 0 ∨ c = 1 ∨ c = 2) := ⟨by omega, by omega⟩
      obtain ⟨rfl | rfl | rfl, rfl | rfl | rfl⟩ := this <;> rfl
theorem sec_Turns {W : World} (h : laidMetH Tryd.prog Rows.trackTurnsRow.laid W) : Sec W := by
  rw [MakeChecks.laidMetH_plain _ _ _ (by kernel_rfl)] at h
  exact sec_of_reads (Lib.laidMet.reads h (List.mem_cons_of_mem _ (List.mem_cons_self ..)))
theorem sec_Reckons {W : World} (h : laidMetH Tryd.prog Rows.trackReckonsRow.laid W) : Sec W := by
  rw [MakeChecks.laidMetH_plain _ _ _ (by kernel_rfl)] at h
  exact sec_of_reads (Lib.laidMet.reads h (List.mem_cons_of_mem _ (List.mem_cons_self ..)))
end Go.Proofs.YtgdmbcfjjdngdaaDoor
