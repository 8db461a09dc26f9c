/- The library writes -1.5 out of its digits into a slice with room. -/
import Derived.Test.YtmkechhjgdanmaaGreatDoorBase
import Derived.OwnWalk
import Derived.WalkMore
namespace Go.Proofs.YtmkechhjgdanmaaGreatDoor
open Go.RowKit Go.Sort

theorem Tryz.info5 : (Tryz.prog.info? 5).map (fun i => (i.zero, i.size, i.bytes)) = some (some (.int .u8 0), 1, 1) := by kernel_rfl
theorem one_cells (w : World) (d : Value) (t : TypeId) : ∀ (j : Nat) (u : Value), [d][j]? = some u → (w.alloc (.cells #[d] t)).cell? ((⟨w.heap.size, 0, none⟩ : Addr).add j) = some u := by
  intro j u hj
  match j, hj with
  | 0, hj => simp at hj; subst hj; simp [Addr.add]
theorem grown_cell {w w' : World} {g : Nat} {a : Addr} {v : Value} (h : w.grownBy w' (some g)) (hc : w.cell? a = some v) (hn : a.block ≠ g) : w'.cell? a = some v := by
  rw [World.cell?_of_block (h.block a.block (World.block_lt_of_cell? w a hc) (fun e => hn (Option.some.inj e)))]; exact hc
theorem alloc_cell {w : World} {a : Addr} {v : Value} (o : Obj) (hc : w.cell? a = some v) : (w.alloc o).cell? a = some v := by
  rw [World.cell?_alloc_old _ _ _ (Nat.ne_of_lt (World.block_lt_of_cell? w a hc))]; exact hc
theorem grown_below {w w' : World} {D X : Nat} (o : Obj) (h : (w.alloc o).grownBy w' (some D)) (hX : X ≤ D) (hX2 : X ≤ w.heap.size) : Below X w w' :=
  ((Below.refl X w).alloc hX2 o).grown h (by simp; omega) fun k hk => by
    have : D = k := Option.some.inj hk
    omega
theorem grown_size {w w' : World} {D : Nat} (o : Obj) (h : (w.alloc o).grownBy w' (some D)) : w.heap.size ≤ w'.heap.size := by
  have := h.size
  rw [World.size_alloc] at this
  omega
set_option maxRecDepth 20000 in
set_option maxHeartbeats 3200000 in
theorem lv112 (B D X : Nat) (w : World) (hX : X ≤ D) (hX2 : X ≤ w.heap.size) (hBD : B ≠ D) (c0 : w.cell? ⟨B, 0, none⟩ = some (.int .u8 49)) (c1 : w.cell? ⟨B, 1, none⟩ = some (.int .u8 53)) (hown : w.ownsRow X 5 1 (.slice (some ⟨D, 0, none⟩) 0 24) 0 []) :
    Calls Tryz.prog 112 #[.slice (some ⟨D, 0, none⟩) 0 24, .bool true, .slice (some ⟨B, 0, none⟩) 32 32, .int .i64 1, .int .i64 2, .int .i64 2, .int .u8 103, .bool true] w fun e w' =>
      e = .returned (.slice (some ⟨D, 0, none⟩) 4 24) ∧ w'.ownsRow X 5 1 (.slice (some ⟨D, 0, none⟩) 4 24) 4 [.int .u8 45, .int .u8 49, .int .u8 46, .int .u8 53] ∧ Below X w w' := by
  obtain ⟨i0, hi, hz0, hz1, hz2⟩ := info_parts Tryz.info5
  have HX := hid' hX
  have HX2 := hid' hX2
  have HBD := hid' hBD
  have HO := hid' hown
  have HL : Hid (Below X w w) := Below.refl X w
  have hlt := World.block_lt_of_cell? w _ c0
  clear hown hX hX2 hBD
  go_enter Tryz.func112, Tryz.ntmps112
  go_upto_region 55 with (at_builtin; refine wpList_append_fits _ rfl (.tmp 179) (.tmp 180) 82 rfl X 5 i0 1 Tryz.underlying82 hi hz1 D 0 24 [] rfl (HO.out.alloc _) ⟨w.heap.size, 0, none⟩ 1 1 [.int .u8 45] rfl rfl (one_cells _ _ _) (fun u hu => by simp at hu; subst hu; rfl) (by decide) ?_; intro w1 ho1 hg1)
  replace HO := hid' ho1
  replace c0 := grown_cell hg1 (alloc_cell _ c0) HBD.out
  replace c1 := grown_cell hg1 (alloc_cell _ c1) HBD.out
  replace HL := hid' (HL.out.trans (grown_below _ hg1 HX.out HX2.out))
  replace HX2 := hid' (Nat.le_trans HX2.out (grown_size _ hg1))
  clear ho1 hg1
  go_wp2
  refine wp_loop_rounds 2 ?_
  rw [rounds_succ]
  go_upto_region 61 with (at_builtin; refine wpList_append_fits _ rfl (.tmp 195) (.tmp 197) 82 rfl X 5 i0 1 Tryz.underlying82 hi hz1 D 1 24 [.int .u8 45] rfl (HO.out.alloc _) ⟨w1.heap.size, 0, none⟩ 1 1 [.int .u8 49] rfl rfl (one_cells _ _ _) (fun u hu => by simp at hu; subst hu; rfl) (by decide) ?_; intro w2 ho2 hg2)
  replace HO := hid' ho2
  replace c0 := grown_cell hg2 (alloc_cell _ c0) HBD.out
  replace c1 := grown_cell hg2 (alloc_cell _ c1) HBD.out
  replace HL := hid' (HL.out.trans (grown_below _ hg2 HX.out HX2.out))
  replace HX2 := hid' (Nat.le_trans HX2.out (grown_size _ hg2))
  clear ho2 hg2
  go_wp2
  rw [rounds_succ]
  go_wp2
  refine wp_loop_rounds 1 ?_
  rw [rounds_succ]
  go_upto_region 69 with (at_builtin; refine wpList_append_fits _ rfl (.tmp 214) (.tmp 215) 82 rfl X 5 i0 1 Tryz.underlying82 hi hz1 D 2 24 [.int .u8 45, .int .u8 49] rfl (HO.out.alloc _) ⟨w2.heap.size, 0, none⟩ 1 1 [.int .u8 46] rfl rfl (one_cells _ _ _) (fun u hu => by simp at hu; subst hu; rfl) (by decide) ?_; intro w3 ho3 hg3)
  replace HO := hid' ho3
  replace c0 := grown_cell hg3 (alloc_cell _ c0) HBD.out
  replace c1 := grown_cell hg3 (alloc_cell _ c1) HBD.out
  replace HL := hid' (HL.out.trans (grown_below _ hg3 HX.out HX2.out))
  replace HX2 := hid' (Nat.le_trans HX2.out (grown_size _ hg3))
  clear ho3 hg3
  go_wp2
  refine wp_loop_rounds 1 ?_
  rw [rounds_succ]
  go_wp2
  refine wp_loop_rounds 2 ?_
  rw [rounds_succ]
  go_upto_region 81 with (at_builtin; refine wpList_append_fits _ rfl (.tmp 250) (.tmp 257) 82 rfl X 5 i0 1 Tryz.underlying82 hi hz1 D 3 24 [.int .u8 45, .int .u8 49, .int .u8 46] rfl (HO.out.alloc _) ⟨w3.heap.size, 0, none⟩ 1 1 [.int .u8 53] rfl rfl (one_cells _ _ _) (fun u hu => by simp at hu; subst hu; rfl) (by decide) ?_; intro w4 ho4 hg4)
  replace HO := hid' ho4
  replace c0 := grown_cell hg4 (alloc_cell _ c0) HBD.out
  replace c1 := grown_cell hg4 (alloc_cell _ c1) HBD.out
  replace HL := hid' (HL.out.trans (grown_below _ hg4 HX.out HX2.out))
  replace HX2 := hid' (Nat.le_trans HX2.out (grown_size _ hg4))
  clear ho4 hg4
  go_wp2
  rw [rounds_succ]
  go_wp2
  refine wp_loop_rounds 1 ?_
  rw [rounds_succ]
  go_wp2
  go_ret
  exact ⟨rfl, HO.out, HL.out⟩
end Go.Proofs.YtmkechhjgdanmaaGreatDoor
