/- The document's ring: now, Push, Cut, Set, Drop. -/
import Derived.Test.YtodlhclaboofiaaDoorR2
set_option linter.unusedSimpArgs false
set_option linter.unusedVariables false
namespace Go.Proofs.YtodlhclaboofiaaDoor
open Go.RowKit Go.Sort

set_option maxHeartbeats 1000000 in
theorem now_any (R : Nat) (s : RS) (v v2 : Value) (L L2 : List Int) (w : World) (h : RefIs w R s v L) (h2 : Lst w v2 L2) (hpr : L2.length = L.length → prOf s.high s.low s.pr L.length = s.pr) :
    Calls Tryd.prog 55 #[.pointer (some ⟨R, 0, none⟩), v2] w fun e w' => e = .returned (.tuple #[]) ∧ RefIs w' R { s with pk := max s.pk L2.length, pr := prOf s.high s.low s.pr L2.length } v2 L2 ∧ Chg (fun k => k = R) w w' := by
  obtain ⟨ao, cap, rfl⟩ := h.sl
  obtain ⟨ao2, cap2, e2, _⟩ := id h2
  subst e2
  have c0 := h.c0
  have f0 := h.fz 0
  have K1 := hid0 (h.setL h2)
  have G1 : Hid (Chg (fun k => k = R) w (w.setCell ⟨R, 0, none⟩ (.slice ao2 L2.length cap2))) := Chg.set (p := fun k => k = R) (a := ⟨R, 0, none⟩) _ rfl _
  have HP := hid0 hpr
  clear h h2 hpr
  by_cases cc : L2.length = L.length
  all_goals
    first
      | have cc' : ((L2.length : Int) != (L.length : Int)) = false := by simp; omega
      | have cc' : ((L2.length : Int) != (L.length : Int)) = true := by simp; omega
    have CC := hid0 cc
    clear cc
    go_enter Tryd.func55, Tryd.ntmps55
    go_upto_region 2 with fail
    generalize hWe : w.setCell ⟨R, 0, none⟩ (.slice ao2 L2.length cap2) = W at *
    clear hWe c0 f0
    have c6 := K1.out.c6
    have f6 := K1.out.fz 6
    have K2 := hid0 (K1.out.setpk (max s.pk L2.length))
    have G2 : Hid (Chg (fun k => k = R) w (W.setCell ⟨R, 6, none⟩ (.int .i64 ((max s.pk L2.length : Nat) : Int)))) := G1.out.trans (Chg.set (p := fun k => k = R) (a := ⟨R, 6, none⟩) _ rfl _)
    clear K1 G1
    by_cases hm : (s.pk : Int) < (L2.length : Int)
    all_goals
      first
        | rw [show ((max s.pk L2.length : Nat) : Int) = (L2.length : Int) by omega] at K2 G2
        | rw [show ((max s.pk L2.length : Nat) : Int) = (s.pk : Int) by omega] at K2 G2
      first
        | have hmx : max (s.pk : Int) (L2.length : Int) = (L2.length : Int) := by omega
        | have hmx : max (s.pk : Int) (L2.length : Int) = (s.pk : Int) := by omega
      go_upto_region 3 with fail
      clear c6 f6 hmx
      generalize World.setCell W _ _ = W2 at *
      have c2 := K2.out.c2
      dsimp only at c2
      have K3 := hid0 K2.out
      have LK : Hid (s.high ≠ 0 → Calls Tryd.prog 68 #[.pointer (some ⟨R, 0, none⟩)] W2 fun e w' => e = .returned (.tuple #[]) ∧ RefIs w' R { s with pk := max s.pk L2.length, pr := prOf s.high s.low s.pr L2.length } (.slice ao2 L2.length cap2) L2 ∧ Chg (fun k => k = R) W2 w') := fun hh => look_any R _ _ L2 W2 K2.out hh
      clear K2
      by_cases hh : s.high = 0
      · have hb : decide (s.high ≠ 0) = false := by simp [hh]
        have E : Hid (prOf s.high s.low s.pr L2.length = s.pr) := by show prOf s.high s.low s.pr L2.length = s.pr; unfold prOf; rw [if_pos hh]
        rw [hb] at c2
        clear hh hb LK
        go_wp2
        go_end0
        exact ⟨rfl, by rw [E.out]; exact K3.out, G2.out⟩
      · have hb : decide (s.high ≠ 0) = true := by simp [hh]
        have LK2 := hid0 (LK.out hh)
        rw [hb] at c2
        clear hh hb LK
        first
          | (have E : Hid (prOf s.high s.low s.pr L2.length = s.pr) := by show prOf s.high s.low s.pr L2.length = s.pr; rw [CC.out]; exact HP.out CC.out
             clear LK2
             go_wp2
             go_end0
             exact ⟨rfl, by rw [E.out]; exact K3.out, G2.out⟩)
          | (go_wp2_with fail
             refine LK2.out.mono ?_
             rintro e W3 ⟨rfl, k3, g3⟩
             have K4 := hid0 k3
             have G4 := hid0 (G2.out.trans g3)
             clear LK2 k3 g3
             go_wp2
             go_end0
             exact ⟨rfl, K4.out, G4.out⟩)
end Go.Proofs.YtodlhclaboofiaaDoor
