/- The document's ring: Push, Cut, Set, Drop. -/
import Derived.Test.YtodlhclaboofiaaDoorR3
set_option linter.unusedSimpArgs false
set_option linter.unusedVariables false
namespace Go.Proofs.YtodlhclaboofiaaDoor
open Go.RowKit Go.Sort

theorem Chg.of_own {p : Nat → Prop} {w w' : World} (h : Below w.heap.size w w') : Chg p w w' := .of_below h
theorem rpush_full (R : Nat) (s : RS) (v : Value) (L : List Int) (x : Int) (w : World) (h : RefIs w R s v L) (hn : s.n ≤ L.length) (hr : s.rf < 9000000000000000000) : Calls Tryd.prog 21 #[.pointer (some ⟨R, 0, none⟩), .int .i64 x] w fun e w' => e = .returned (.int .i64 5) ∧ RefIs w' R { s with rf := s.rf + 1 } v L ∧ Chg (fun k => k = R) w w' := by
  obtain ⟨ao, cap, rfl⟩ := h.sl
  have c0 := h.c0
  have c1 := h.c1
  have c7 := h.c7
  have f7 := h.fz 7
  have d0 := fun m => below_cell c0 ((Gr.refl w).drewN m).below
  have d1 := fun m => below_cell c1 ((Gr.refl w).drewN m).below
  have K1 : Hid (∀ m, RefIs ((w.drewN m).setCell ⟨R, 7, none⟩ (.int .i64 ((s.rf : Int) + 1))) R { s with rf := s.rf + 1 } (.slice ao L.length cap) L) := fun m => by
    have := (h.gr ((Gr.refl w).drewN m)).setrf (s.rf + 1)
    rw [show ((s.rf + 1 : Nat) : Int) = (s.rf : Int) + 1 by omega] at this
    exact this
  have G1 : Hid (∀ m, Chg (fun k => k = R) w ((w.drewN m).setCell ⟨R, 7, none⟩ (.int .i64 ((s.rf : Int) + 1)))) := fun m => (Chg.of_gr ((Gr.refl w).drewN m)).trans (Chg.set (p := fun k => k = R) (a := ⟨R, 7, none⟩) _ rfl _)
  have b1 : (0 : Int) ≤ (s.rf : Int) := by omega
  have b2 : (s.rf : Int) < 9000000000000000000 := by omega
  clear h
  generalize (s.rf : Int) = rf at *
  go_enter Tryd.func21, Tryd.ntmps21
  go_wp2
  go_quiet (fail)
  go_wp2
  go_ret
  exact ⟨rfl, K1.out _, G1.out _⟩
set_option maxHeartbeats 2000000 in
theorem rpush_yes (R : Nat) (s : RS) (v : Value) (L : List Int) (x : Int) (w : World) (h : RefIs w R s v L) (hn : L.length < s.n) (hn2 : s.n ≤ 65536) : Calls Tryd.prog 21 #[.pointer (some ⟨R, 0, none⟩), .int .i64 x] w fun e w' => e = .returned (.int .i64 0) ∧ ∃ v2, RefIs w' R { s with pk := max s.pk (L.length + 1), pr := prOf s.high s.low s.pr (L.length + 1) } v2 (L ++ [x]) ∧ Chg (fun k => k = R) w w' := by
  obtain ⟨i0, hi, hz0, hz1, hz2⟩ := info_parts Tryd.info3
  obtain ⟨ao, cap, rfl⟩ := h.sl
  have d0 := fun m => below_cell h.c0 ((Gr.refl w).drewN m).below
  have d1 := fun m => below_cell h.c1 ((Gr.refl w).drewN m).below
  have e1 : ¬ s.n ≤ L.length := by omega
  have H := hid0 h
  have HN : Hid (L.length < s.n ∧ s.n ≤ 65536) := ⟨hn, hn2⟩
  clear h hn hn2
  go_enter Tryd.func21, Tryd.ntmps21
  go_wp2
  refine wp_region_quiet_lit (by kernel_rfl) (by kernel_rfl) ?_
  repeat (go_big_quiet_step (fail))
  refine wpQuiet_nil ?_
  intro _ hw'
  obtain ⟨q, rfl⟩ := hw'
  have H0 := hid0 (H.out.gr ((Gr.refl w).drewN q))
  have G0 : Hid (Chg (fun k => k = R) w (w.drewN q)) := Chg.of_gr ((Gr.refl w).drewN q)
  clear d0 d1 H
  generalize w.drewN q = w0 at *
  have c0 := H0.out.c0
  have CP := hid0 (copied_any _ L (-1) w0 H0.out.lst (by have := HN.out; omega))
  rw [cpL_all L (-1) (by omega)] at CP
  go_wp2_with fail
  refine CP.out.mono ?_
  rintro e w1 ⟨v1, rfl, ow, b1⟩
  have OW := hid0 ow
  have B1 := hid0 b1
  have HS : Hid (w0.heap.size ≤ w1.heap.size) := b1.size
  obtain ⟨aa, cc, rfl⟩ : ∃ aa cc, v1 = .slice aa L.length cc := by
    obtain ⟨a1, c1, e1, _⟩ := Lst.of_own ow
    exact ⟨a1, c1, e1⟩
  clear CP ow b1 c0
  go_wp2_with (at_builtin; refine wpList_append_own _ rfl (.tmp 28) (.tmp 30) 47 rfl w0.heap.size 3 i0 (.int .i64 0) 1 8 Tryd.underlying47 hi hz0 hz1 hz2 rfl (by decide) _ L.length _ rfl ((own_kept OW.out ((Gr.refl _).alloc _))) ⟨w1.heap.size, 0, none⟩ 1 1 [.int .i64 x] rfl rfl (one_cells _ _ _) (fun u hu => by simp at hu; subst hu; rfl) (by have := HN.out; unfold maxLen; omega) (by have := HN.out; omega) (by have := HS.out; simp; omega) ?_)
  intro sv' w2 hown' hgrow _
  have OW2 : Hid (w2.ownsRow w0.heap.size 3 1 sv' (L ++ [x]).length ((L ++ [x]).map (Value.int .i64))) := by
    rw [List.length_append, List.map_append]
    exact hown'
  have B2 : Below w0.heap.size w0 (w1.alloc (.cells #[.int .i64 x] 3)) := B1.out.alloc HS.out _
  have B3 : Below w0.heap.size w0 w2 := B2.grown hgrow B2.size (fun r e => own_ge OW.out r e)
  have H2 := hid0 (H0.out.below B3)
  have G2 : Hid (Chg (fun k => k = R) w w2) := G0.out.trans (.of_below B3)
  have NW := hid0 (now_any R s _ sv' L (L ++ [x]) w2 H2.out (Lst.of_own OW2.out) (fun h => by simp at h))
  obtain ⟨aa, cc, rfl⟩ : ∃ aa cc, sv' = .slice aa (L ++ [x]).length cc := by
    obtain ⟨a1, c1, e1, _⟩ := Lst.of_own OW2.out
    exact ⟨a1, c1, e1⟩
  rw [show (L ++ [x]).length = L.length + 1 by simp] at NW ⊢
  clear hown' hgrow OW B1 B2 B3 H0 G0 HS OW2 H2
  go_wp2_with fail
  refine NW.out.mono ?_
  rintro e w3 ⟨rfl, k3, g3⟩
  have K3 := hid0 k3
  have G3 := hid0 (G2.out.trans g3)
  clear NW k3 g3
  go_wp2
  go_ret
  exact ⟨rfl, _, K3.out, G3.out⟩
theorem rcut_no (R : Nat) (s : RS) (v : Value) (L : List Int) (i : Int) (w : World) (h : RefIs w R s v L) (hi : i < 0 ∨ (L.length : Int) ≤ i) : Calls Tryd.prog 27 #[.pointer (some ⟨R, 0, none⟩), .int .i64 i] w fun e w' => e = .returned (.tuple #[.int .i64 0, .bool false]) ∧ w' = w := by
  have I := hid0 (rat_no R s v L i w h hi)
  clear h hi
  go_enter Tryd.func27, Tryd.ntmps27
  go_wp2_with (go_at_call 30; refine I.out.mono ?_; rintro e w1 ⟨rfl, rfl⟩)
  go_ret2
  exact ⟨rfl, rfl⟩
set_option maxHeartbeats 2000000 in
theorem rcut_yes (R : Nat) (s : RS) (v : Value) (L : List Int) (i : Nat) (x : Int) (w : World) (h : RefIs w R s v L) (hL : L.length ≤ s.n) (hn2 : s.n ≤ 65536) (hpk : L.length ≤ s.pk) (hx : L[i]? = some x) : Calls Tryd.prog 27 #[.pointer (some ⟨R, 0, none⟩), .int .i64 (i : Int)] w fun e w' => e = .returned (.tuple #[.int .i64 x, .bool true]) ∧
    ∃ v2, RefIs w' R { s with pr := prOf s.high s.low s.pr (L.length - 1) } v2 (L.eraseIdx i) ∧ Chg (fun k => k = R) w w' := by
  have hi := (List.getElem?_eq_some_iff.1 hx).1
  have hel : (L.eraseIdx i).length = L.length - 1 := by rw [List.length_eraseIdx, if_pos hi]
  obtain ⟨ao, cap, rfl⟩ := h.sl
  have I := hid0 (rat_yes R s _ L i x w h hx)
  have c0 := h.c0
  have CP := hid0 (copied_any _ L (i : Int) w h.lst (by omega))
  rw [cpL_erase L i hi] at CP
  have H := hid0 h
  have HP : Hid (max s.pk (L.length - 1) = s.pk ∧ 1 ≤ L.length) := ⟨by omega, by omega⟩
  clear h hx hL hn2 hpk hi
  go_enter Tryd.func27, Tryd.ntmps27
  go_wp2_with fail
  refine I.out.mono ?_
  rintro e w1 ⟨rfl, hw⟩
  cases hw
  go_wp2_with fail
  refine CP.out.mono ?_
  rintro e w1 ⟨v1, rfl, ow, b1⟩
  have NW := hid0 (now_any R s _ v1 L (L.eraseIdx i) w1 (H.out.below b1) (Lst.of_own ow) (fun h => by have := HP.out; omega))
  have G1 : Hid (Chg (fun k => k = R) w w1) := .of_below b1
  rw [hel, HP.out.1] at NW
  clear I CP ow b1 c0 H
  go_wp2_with fail
  refine NW.out.mono ?_
  rintro e w3 ⟨rfl, k3, g3⟩
  have K3 := hid0 k3
  have G3 := hid0 (G1.out.trans g3)
  clear NW k3 g3
  go_wp2
  go_ret2
  exact ⟨rfl, _, K3.out, G3.out⟩
end Go.Proofs.YtodlhclaboofiaaDoor
