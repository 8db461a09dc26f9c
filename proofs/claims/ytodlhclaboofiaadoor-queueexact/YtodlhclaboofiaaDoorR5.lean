/- The document's ring: Set, Drop. -/
import Derived.Test.YtodlhclaboofiaaDoorR4
set_option linter.unusedSimpArgs false
set_option linter.unusedVariables false
namespace Go.Proofs.YtodlhclaboofiaaDoor
open Go.RowKit Go.Sort

theorem rset_no (R : Nat) (s : RS) (v : Value) (L : List Int) (i x : Int) (w : World) (h : RefIs w R s v L) (hi : i < 0 ∨ (L.length : Int) ≤ i) : Calls Tryd.prog 31 #[.pointer (some ⟨R, 0, none⟩), .int .i64 i, .int .i64 x] w fun e w' => e = .returned (.bool false) ∧ w' = w := by
  obtain ⟨ao, cap, rfl⟩ := h.sl
  have c0 := h.c0
  clear h
  by_cases c : i < 0
  · clear hi
    go_enter Tryd.func31, Tryd.ntmps31
    go_wp2
    go_ret
    exact ⟨rfl, rfl⟩
  · have d1 : decide (i < 0) = false := by simpa using c
    have d2 : decide ((L.length : Int) ≤ i) = true := by simp; omega
    clear hi c
    go_enter Tryd.func31, Tryd.ntmps31
    go_wp2
    go_ret
    exact ⟨rfl, rfl⟩
set_option maxHeartbeats 2000000 in
theorem rset_yes (R : Nat) (s : RS) (v : Value) (L : List Int) (i : Nat) (x : Int) (w : World) (h : RefIs w R s v L) (hL : L.length ≤ 65536) (hi : i < L.length) : Calls Tryd.prog 31 #[.pointer (some ⟨R, 0, none⟩), .int .i64 (i : Int), .int .i64 x] w fun e w' => e = .returned (.bool true) ∧ ∃ v2, RefIs w' R s v2 (L.set i x) ∧ Chg (fun k => k = R) w w' := by
  obtain ⟨ao, cap, rfl⟩ := h.sl
  have c0 := h.c0
  have CP := hid0 (copied_any _ L (-1) w h.lst hL)
  rw [cpL_all L (-1) (by omega)] at CP
  have H := hid0 h
  have d1 : decide ((i : Int) < 0) = false := by simp
  have d2 : decide ((L.length : Int) ≤ (i : Int)) = false := by simp; omega
  have d3 : (i : Int) < (L.length : Int) := by omega
  have HR : Hid (R < w.heap.size) := h.blk.lt
  clear h
  go_enter Tryd.func31, Tryd.ntmps31
  go_wp2_with fail
  refine CP.out.mono ?_
  rintro e w1 ⟨v1, rfl, ow, b1⟩
  obtain ⟨g, cc, rfl, hg, ⟨y, cy⟩, fy, hput⟩ := Lst.put ow hi
  have LS := hid0 (hput x)
  have H1 := H.out.below b1
  have G1 : Chg (fun k => k = R) w w1 := .of_below b1
  have G2 : Hid (Chg (fun k => k = R) w (w1.setCell ⟨g, i, none⟩ (.int .i64 x))) :=
    ⟨G1.os, G1.tape, G1.output, by have := G1.size; simpa [World.setCell] using this, fun k hk hn => (Below.heap_setCell _ _ _ _ (by show k ≠ g; omega)).trans (G1.block k hk hn)⟩
  have K2 : Hid (Bk (w1.setCell ⟨g, i, none⟩ (.int .i64 x)) R 49 _) := H1.blk.other (a := ⟨g, i, none⟩) (by have := HR.out; show R ≠ g; omega) _
  clear CP H ow b1 hput H1 G1 hg
  go_upto_region 5 with fail
  generalize hWe : World.setCell w1 _ _ = W at *
  clear hWe cy fy
  have e0 := K2.out.at 0
  have f0 := K2.out.frozen 0
  simp only [List.getElem?_cons_zero] at e0
  have KK : Hid (RefIs (W.setCell ⟨R, 0, none⟩ (.slice (some ⟨g, 0, none⟩) L.length cc)) R s (.slice (some ⟨g, 0, none⟩) L.length cc) (L.set i x)) := ⟨K2.out.set 0 _, LS.out.set (a := ⟨R, 0, none⟩) K2.out (by decide) _⟩
  have G3 : Hid (Chg (fun k => k = R) w (W.setCell ⟨R, 0, none⟩ (.slice (some ⟨g, 0, none⟩) L.length cc))) := G2.out.trans (Chg.set (p := fun k => k = R) (a := ⟨R, 0, none⟩) _ rfl _)
  clear K2 LS G2
  go_wp2
  go_ret
  exact ⟨rfl, _, KK.out, G3.out⟩
set_option maxHeartbeats 2000000 in
theorem rdrop_any (R : Nat) (s : RS) (v : Value) (L : List Int) (m : Int) (k : Nat) (w : World) (h : RefIs w R s v L) (hL : L.length ≤ 65536) (hpk : L.length ≤ s.pk) (hpr : prOf s.high s.low s.pr L.length = s.pr) (hk : (k : Int) = min (max m 0) (L.length : Int)) :
    Calls Tryd.prog 36 #[.pointer (some ⟨R, 0, none⟩), .int .i64 m] w fun e w' => e = .returned (.int .i64 (k : Int)) ∧ ∃ v2, RefIs w' R { s with pr := prOf s.high s.low s.pr (L.length - k) } v2 (L.drop k) ∧ Chg (fun k => k = R) w w' := by
  obtain ⟨ao, cap, rfl⟩ := h.sl
  have c0 := h.c0
  have hkl : k ≤ L.length := by omega
  have CP := hid0 (copied_any _ (L.drop k) (-1) w (h.lst.drop k hkl) (by rw [List.length_drop]; omega))
  rw [cpL_all _ (-1) (by omega)] at CP
  have H := hid0 h
  have HP := hid0 hpr
  have HK : Hid (k ≤ L.length ∧ max s.pk (L.length - k) = s.pk) := ⟨hkl, by omega⟩
  clear h hL hpk hpr
  have rs : ∀ w : World, (Instr.slice 47 (.slice ao L.length cap) (some (.int .i64 (k : Int))) none none).run Tryd.prog w = .ok (.slice (if cap = k then ao else Option.map (fun x => x.add k) ao) (L.length - k) (cap - k)) w := fun w => by
    simp [go_sem, hkl]
  generalize (if cap = k then ao else Option.map (fun x => x.add k) ao) = ao2 at *
  go_enter Tryd.func36, Tryd.ntmps36
  go_upto_region 2 with fail
  first
    | rw [show max 0 (min m (L.length : Int)) = (k : Int) by omega]
    | rw [show (if 0 < (if (L.length : Int) < m then (L.length : Int) else m) then (if (L.length : Int) < m then (L.length : Int) else m) else 0) = (k : Int) from by rw [hk]; (repeat' split) <;> omega]
  clear hk
  try generalize min m (L.length : Int) = mn at *
  try generalize (if (L.length : Int) < m then (L.length : Int) else m) = mn at *
  go_wp2_with fail
  refine CP.out.mono ?_
  rintro e w1 ⟨v1, rfl, ow, b1⟩
  have NW := hid0 (now_any R s _ v1 L (L.drop k) w1 (H.out.below b1) (Lst.of_own ow) (fun _ => HP.out))
  have G1 : Hid (Chg (fun k => k = R) w w1) := .of_below b1
  rw [List.length_drop, HK.out.2] at NW
  clear CP ow b1 c0 H rs
  go_wp2_with fail
  refine NW.out.mono ?_
  rintro e w3 ⟨rfl, k3, g3⟩
  have K3 := hid0 k3
  have G3 := hid0 (G1.out.trans g3)
  clear NW k3 g3
  go_wp2
  go_ret
  exact ⟨rfl, _, K3.out, G3.out⟩
end Go.Proofs.YtodlhclaboofiaaDoor
