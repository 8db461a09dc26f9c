/- The law's works. -/
import Derived.Test.YtodlhclaboofiaaDoorQl
set_option linter.unusedSimpArgs false
set_option linter.unusedVariables false
namespace Go.Proofs.YtodlhclaboofiaaDoor
open Go.RowKit Go.Sort

set_option maxHeartbeats 2000000 in
theorem works_any (w : World) : Calls Tryd.prog 4 #[] w fun e w' => e = .returned (.bool true) ∧ Below w.heap.size w w' := by
  have NW := hid0 (i_new_yes 1 w (by omega) (by omega))
  rw [show ((1 : Nat) : Int) = 1 from rfl] at NW
  go_enter Tryd.func4, Tryd.ntmps4
  go_wp2_with fail
  refine NW.out.mono ?_
  rintro e w1 ⟨T, B, rfl, hT, hB, K, g⟩
  have OK0 := RS.made_ok 1 (by omega) (by omega)
  have G1 : Hid (Chg (tw T B) w w1) := Chg.of_gr g
  have HTB : Hid (w.heap.size ≤ T ∧ w.heap.size ≤ B) := ⟨hT, hB⟩
  have PY := hid0 (i_push_yes T B _ _ 7 w1 K OK0 (by decide))
  clear NW hT hB K g OK0
  go_wp2_with fail
  refine PY.out.mono ?_
  rintro e w2 ⟨rfl, s2, ok2, n2, _, r2, _, _, K2, G2⟩
  have hc2 : s2.c = 1 := by have := ok2.cL; simpa using this.symm
  have hn2 : s2.n = 1 := n2
  have hr2 : s2.rf = 0 := r2
  have G3 := hid0 (G1.out.trans G2)
  have PF := hid0 (i_push_full T B s2 8 w2 K2 (by omega) (by omega) (by omega) (by omega))
  have OK2 := hid0 (ok2.refused (by omega))
  clear PY ok2 n2 r2 K2 G2 G1
  go_wp2_with fail
  refine PF.out.mono ?_
  rintro e w3 ⟨rfl, K3, G4⟩
  have G5 := hid0 (G3.out.trans (G4.wide (q := tw T B) (fun k _ h => .inl h)))
  have PO := hid0 (i_pop_yes T B _ [] 7 w3 K3 OK2.out)
  clear PF K3 G4 G3
  go_wp2_with fail
  refine PO.out.mono ?_
  rintro e w4 ⟨rfl, s5, ok5, n5, _, _, _, _, K5, G6⟩
  have G7 := hid0 (G5.out.trans G6)
  have hc5 : s5.c = 0 := by have := ok5.cL; simpa using this.symm
  have LN := hid0 (i_len T B s5 w4 K5 ok5.n1)
  rw [hc5] at LN
  rw [show ((0 : Nat) : Int) = 0 from rfl] at LN
  clear PO n5 K5 G6 ok5 OK2 hc5 hc2 hn2 hr2
  go_wp2_with fail
  refine LN.out.mono ?_
  rintro e w5 ⟨rfl, hw⟩
  cases hw
  go_wp2
  go_ret
  exact ⟨rfl, G7.out.below (Nat.le_refl _) (by rintro k (rfl | rfl); exact HTB.out.1; exact HTB.out.2)⟩
end Go.Proofs.YtodlhclaboofiaaDoor
