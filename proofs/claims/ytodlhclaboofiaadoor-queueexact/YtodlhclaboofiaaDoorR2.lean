/- The document's ring: New, look, now, At, Mark. -/
import Derived.Test.YtodlhclaboofiaaDoorR1
import Derived.BigQuiet
set_option linter.unusedSimpArgs false
set_option linter.unusedVariables false
namespace Go.Proofs.YtodlhclaboofiaaDoor
open Go.RowKit Go.Sort

/-- The document's ring in block R: the books of s, the list L in the slice v. -/
structure RefIs (w : World) (R : Nat) (s : RS) (v : Value) (L : List Int) : Prop where
  blk : Bk w R 49 [v, .int .i64 (s.n : Int), .bool (decide (s.high ≠ 0)), .int .i64 s.low, .int .i64 s.high, .bool s.pr, .int .i64 (s.pk : Int), .int .i64 (s.rf : Int)]
  lst : Lst w v L
section
variable {w w' : World} {R : Nat} {s : RS} {v : Value} {L : List Int}
theorem RefIs.gr (h : RefIs w R s v L) (g : Gr w w') : RefIs w' R s v L := ⟨h.blk.gr g, h.lst.gr g⟩
theorem RefIs.below (h : RefIs w R s v L) (g : Below w.heap.size w w') : RefIs w' R s v L := ⟨h.blk.mono g h.blk.lt, h.lst.below g⟩
theorem RefIs.c0 (h : RefIs w R s v L) : w.cell? ⟨R, 0, none⟩ = some v := h.blk.at 0
theorem RefIs.c1 (h : RefIs w R s v L) : w.cell? ⟨R, 1, none⟩ = some (.int .i64 (s.n : Int)) := h.blk.at 1
theorem RefIs.c2 (h : RefIs w R s v L) : w.cell? ⟨R, 2, none⟩ = some (.bool (decide (s.high ≠ 0))) := h.blk.at 2
theorem RefIs.c3 (h : RefIs w R s v L) : w.cell? ⟨R, 3, none⟩ = some (.int .i64 s.low) := h.blk.at 3
theorem RefIs.c4 (h : RefIs w R s v L) : w.cell? ⟨R, 4, none⟩ = some (.int .i64 s.high) := h.blk.at 4
theorem RefIs.c5 (h : RefIs w R s v L) : w.cell? ⟨R, 5, none⟩ = some (.bool s.pr) := h.blk.at 5
theorem RefIs.c6 (h : RefIs w R s v L) : w.cell? ⟨R, 6, none⟩ = some (.int .i64 (s.pk : Int)) := h.blk.at 6
theorem RefIs.c7 (h : RefIs w R s v L) : w.cell? ⟨R, 7, none⟩ = some (.int .i64 (s.rf : Int)) := h.blk.at 7
theorem RefIs.fz (h : RefIs w R s v L) (i : Nat) : w.frozen? ⟨R, i, none⟩ = false := h.blk.frozen i
theorem RefIs.sl (h : RefIs w R s v L) : ∃ ao cap, v = .slice ao L.length cap := by
  obtain ⟨ao, cap, e, _⟩ := h.lst
  exact ⟨ao, cap, e⟩
theorem RefIs.setL (h : RefIs w R s v L) {v2 : Value} {L2 : List Int} (h2 : Lst w v2 L2) : RefIs (w.setCell ⟨R, 0, none⟩ v2) R s v2 L2 := ⟨h.blk.set 0 v2, h2.set (a := ⟨R, 0, none⟩) h.blk (by decide) v2⟩
theorem RefIs.setpr (h : RefIs w R s v L) (x : Bool) : RefIs (w.setCell ⟨R, 5, none⟩ (.bool x)) R { s with pr := x } v L := ⟨h.blk.set 5 _, h.lst.set (a := ⟨R, 5, none⟩) h.blk (by decide) _⟩
theorem RefIs.setpk (h : RefIs w R s v L) (x : Nat) : RefIs (w.setCell ⟨R, 6, none⟩ (.int .i64 (x : Int))) R { s with pk := x } v L := ⟨h.blk.set 6 _, h.lst.set (a := ⟨R, 6, none⟩) h.blk (by decide) _⟩
theorem RefIs.setrf (h : RefIs w R s v L) (x : Nat) : RefIs (w.setCell ⟨R, 7, none⟩ (.int .i64 (x : Int))) R { s with rf := x } v L := ⟨h.blk.set 7 _, h.lst.set (a := ⟨R, 7, none⟩) h.blk (by decide) _⟩
end
theorem rnew_no (m : Int) (w : World) (h : m < 1 ∨ 65536 < m) : Calls Tryd.prog 7 #[.int .i64 m] w fun e w' => e = .returned (.pointer none) ∧ w' = w := by
  by_cases c : m < 1
  · go_enter Tryd.func7, Tryd.ntmps7
    go_wp2
    go_ret
    exact ⟨rfl, rfl⟩
  · have e1 : decide ((65536 : Int) < m) = true := by simp; omega
    go_enter Tryd.func7, Tryd.ntmps7
    go_wp2
    go_ret
    exact ⟨rfl, rfl⟩
theorem rnew_yes (n : Nat) (w : World) (h1 : 1 ≤ n) (h2 : n ≤ 65536) : Calls Tryd.prog 7 #[.int .i64 (n : Int)] w fun e w' => ∃ R, e = .returned (.pointer (some ⟨R, 0, none⟩)) ∧ w.heap.size ≤ R ∧ RefIs w' R (RS.made n) (.slice none 0 0) [] ∧ Gr w w' := by
  have e1 : decide ((n : Int) < 1) = false := by simp; omega
  have e2 : decide ((65536 : Int) < (n : Int)) = false := by simp; omega
  have K := Bk.new w 49 [.slice none 0 0, .int .i64 (n : Int), .bool false, .int .i64 0, .int .i64 0, .bool false, .int .i64 0, .int .i64 0]
  have g := (Gr.refl w).alloc (.cells #[.slice none 0 0, .int .i64 (n : Int), .bool false, .int .i64 0, .int .i64 0, .bool false, .int .i64 0, .int .i64 0] 49)
  have HK : Hid (RefIs _ w.heap.size (RS.made n) (.slice none 0 0) []) := ⟨K, none, 0, rfl, Nat.le_refl _, .inl rfl⟩
  have HG := hid0 g
  clear K g
  go_enter Tryd.func7, Tryd.ntmps7
  go_wp2
  go_ret
  exact ⟨_, rfl, Nat.le_refl _, HK.out, HG.out⟩
/-- What look makes of a ring that is marked. -/
theorem look_any (R : Nat) (s : RS) (v : Value) (L : List Int) (w : World) (h : RefIs w R s v L) (hh : s.high ≠ 0) : Calls Tryd.prog 68 #[.pointer (some ⟨R, 0, none⟩)] w fun e w' => e = .returned (.tuple #[]) ∧
    RefIs w' R { s with pr := prOf s.high s.low s.pr L.length } v L ∧ Chg (fun k => k = R) w w' := by
  obtain ⟨ao, cap, rfl⟩ := h.sl
  have c0 := fun m => below_cell h.c0 ((Gr.refl w).drewN m).below
  have c3 := fun m => below_cell h.c3 ((Gr.refl w).drewN m).below
  have c4 := fun m => below_cell h.c4 ((Gr.refl w).drewN m).below
  have c5 := fun m => below_cell h.c5 ((Gr.refl w).drewN m).below
  have f5 := fun m => (h.gr ((Gr.refl w).drewN m)).fz 5
  have H := hid0 h
  clear h
  by_cases e2 : s.high ≤ (L.length : Int)
  · have E2 : Hid (prOf s.high s.low s.pr L.length = true) := by show prOf s.high s.low s.pr L.length = true; unfold prOf; rw [if_neg hh, if_pos e2]
    clear hh
    go_enter Tryd.func68, Tryd.ntmps68
    go_wp2
    go_quiet (fail)
    go_wp2
    go_end0
    exact ⟨rfl, by rw [E2.out]; exact (H.out.gr ((Gr.refl w).drewN _)).setpr true, (Chg.of_gr ((Gr.refl w).drewN _)).trans (Chg.set (p := fun k => k = R) (a := ⟨R, 5, none⟩) _ rfl _)⟩
  · by_cases e3 : (L.length : Int) ≤ s.low
    · have E2 : Hid (prOf s.high s.low s.pr L.length = false) := by show prOf s.high s.low s.pr L.length = false; unfold prOf; rw [if_neg hh, if_neg e2, if_pos e3]
      clear hh
      go_enter Tryd.func68, Tryd.ntmps68
      go_wp2
      go_quiet (fail)
      go_wp2
      go_quiet (fail)
      go_wp2
      go_end0
      exact ⟨rfl, by rw [E2.out]; exact (H.out.gr ((Gr.refl w).drewN _)).setpr false, (Chg.of_gr ((Gr.refl w).drewN _)).trans (Chg.set (p := fun k => k = R) (a := ⟨R, 5, none⟩) _ rfl _)⟩
    · have E2 : Hid (prOf s.high s.low s.pr L.length = s.pr) := by show prOf s.high s.low s.pr L.length = s.pr; unfold prOf; rw [if_neg hh, if_neg e2, if_neg e3]
      clear hh
      go_enter Tryd.func68, Tryd.ntmps68
      go_wp2
      go_quiet (fail)
      go_wp2
      go_quiet (fail)
      go_wp2
      go_end0
      exact ⟨rfl, by rw [E2.out]; exact H.out.gr (((Gr.refl w).drewN _).drewN _), Chg.of_gr (((Gr.refl w).drewN _).drewN _)⟩
theorem rat_no (R : Nat) (s : RS) (v : Value) (L : List Int) (i : Int) (w : World) (h : RefIs w R s v L) (hi : i < 0 ∨ (L.length : Int) ≤ i) : Calls Tryd.prog 30 #[.pointer (some ⟨R, 0, none⟩), .int .i64 i] w fun e w' => e = .returned (.tuple #[.int .i64 0, .bool false]) ∧ w' = w := by
  obtain ⟨ao, cap, rfl⟩ := h.sl
  have c0 := h.c0
  clear h
  by_cases c : i < 0
  · clear hi
    go_enter Tryd.func30, Tryd.ntmps30
    go_wp2
    go_ret2
    exact ⟨rfl, rfl⟩
  · have d1 : decide (i < 0) = false := by simpa using c
    have d2 : decide ((L.length : Int) ≤ i) = true := by simp; omega
    clear hi c
    go_enter Tryd.func30, Tryd.ntmps30
    go_wp2
    go_ret2
    exact ⟨rfl, rfl⟩
theorem rat_yes (R : Nat) (s : RS) (v : Value) (L : List Int) (i : Nat) (x : Int) (w : World) (h : RefIs w R s v L) (hx : L[i]? = some x) : Calls Tryd.prog 30 #[.pointer (some ⟨R, 0, none⟩), .int .i64 (i : Int)] w fun e w' => e = .returned (.tuple #[.int .i64 x, .bool true]) ∧ w' = w := by
  obtain ⟨ao, cap, rfl⟩ := h.sl
  have c0 := h.c0
  obtain ⟨_, b, off, rfl, ce⟩ := h.lst.at hx
  have hi := (List.getElem?_eq_some_iff.1 hx).1
  have d1 : decide ((i : Int) < 0) = false := by simp
  have d2 : decide ((L.length : Int) ≤ (i : Int)) = false := by simp; omega
  have d3 : (i : Int) < (L.length : Int) := by omega
  clear h hx
  go_enter Tryd.func30, Tryd.ntmps30
  go_wp2
  go_ret2
  exact ⟨rfl, rfl⟩
theorem rmark_no (R : Nat) (s : RS) (v : Value) (L : List Int) (low high : Int) (w : World) (h : RefIs w R s v L) (hm : low < 0 ∨ high ≤ low ∨ (s.n : Int) < high) : Calls Tryd.prog 39 #[.pointer (some ⟨R, 0, none⟩), .int .i64 low, .int .i64 high] w fun e w' => e = .returned (.int .i64 2) ∧ w' = w := by
  have c1 := h.c1
  clear h
  by_cases k1 : low < 0
  · clear hm
    go_enter Tryd.func39, Tryd.ntmps39
    go_wp2
    go_ret
    exact ⟨rfl, rfl⟩
  · have d1 : decide (low < 0) = false := by simpa using k1
    by_cases k2 : high ≤ low
    · have d2 : decide (high ≤ low) = true := by simpa using k2
      clear hm k1 k2
      go_enter Tryd.func39, Tryd.ntmps39
      go_wp2
      go_ret
      exact ⟨rfl, rfl⟩
    · have d2 : decide (high ≤ low) = false := by simpa using k2
      have d3 : decide ((s.n : Int) < high) = true := by simp; omega
      clear hm k1 k2
      go_enter Tryd.func39, Tryd.ntmps39
      go_wp2
      go_ret
      exact ⟨rfl, rfl⟩
theorem rmark_yes (R : Nat) (s : RS) (v : Value) (L : List Int) (low high : Int) (w : World) (h : RefIs w R s v L) (m1 : 0 ≤ low) (m2 : low < high) (m3 : high ≤ (s.n : Int)) : Calls Tryd.prog 39 #[.pointer (some ⟨R, 0, none⟩), .int .i64 low, .int .i64 high] w fun e w' => e = .returned (.int .i64 0) ∧
    RefIs w' R { s with low := low, high := high, pr := decide (high ≤ (L.length : Int)) } v L ∧ Chg (fun k => k = R) w w' := by
  obtain ⟨ao, cap, rfl⟩ := h.sl
  have c0 := h.c0
  have c1 := h.c1
  have c2 := h.c2
  have c3 := h.c3
  have c4 := h.c4
  have c5 := h.c5
  have f2 := h.fz 2
  have f3 := h.fz 3
  have f4 := h.fz 4
  have f5 := h.fz 5
  have hh : (decide (high ≠ 0)) = true := by simp; omega
  have kk := ((((h.blk.set 2 (.bool true)).set 3 (.int .i64 low)).set 4 (.int .i64 high)).set 5 (.bool (decide (high ≤ (L.length : Int)))))
  have G : Hid (Chg (fun k => k = R) w ((((w.setCell ⟨R, 2, none⟩ (.bool true)).setCell ⟨R, 3, none⟩ (.int .i64 low)).setCell ⟨R, 4, none⟩ (.int .i64 high)).setCell ⟨R, 5, none⟩ (.bool (decide (high ≤ (L.length : Int)))))) :=
    (((Chg.set (p := fun k => k = R) (a := ⟨R, 2, none⟩) _ rfl _).trans (Chg.set (p := fun k => k = R) (a := ⟨R, 3, none⟩) _ rfl _)).trans (Chg.set (p := fun k => k = R) (a := ⟨R, 4, none⟩) _ rfl _)).trans (Chg.set (p := fun k => k = R) (a := ⟨R, 5, none⟩) _ rfl _)
  have KK : Hid (RefIs ((((w.setCell ⟨R, 2, none⟩ (.bool true)).setCell ⟨R, 3, none⟩ (.int .i64 low)).setCell ⟨R, 4, none⟩ (.int .i64 high)).setCell ⟨R, 5, none⟩ (.bool (decide (high ≤ (L.length : Int))))) R { s with low := low, high := high, pr := decide (high ≤ (L.length : Int)) } (.slice ao L.length cap) L) := by
    refine ⟨?_, h.lst.chg G.out ?_⟩
    · rw [show (decide (({ s with low := low, high := high, pr := decide (high ≤ (L.length : Int)) } : RS).high ≠ 0)) = true from hh]
      exact kk
    · intro b cur hb hc
      subst hb
      have := h.blk
      unfold Bk at this
      rw [this] at hc
      cases hc
  have d1 : decide (low < 0) = false := by simp; omega
  have d2 : decide (high ≤ low) = false := by simp; omega
  have d3 : decide ((s.n : Int) < high) = false := by simp; omega
  clear h m1 m2 m3 kk hh
  generalize hD : decide (high ≤ (L.length : Int)) = D at *
  go_enter Tryd.func39, Tryd.ntmps39
  go_wp2
  go_ret
  exact ⟨rfl, KK.out, G.out⟩
end Go.Proofs.YtodlhclaboofiaaDoor
