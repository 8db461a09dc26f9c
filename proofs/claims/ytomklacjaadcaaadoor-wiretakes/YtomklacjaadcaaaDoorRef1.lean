/- The reference's In in memory; contracts of fail and Fixed. -/
import Derived.Test.YtomklacjaadcaaaDoorIn5
namespace Go.Proofs.YtomklacjaadcaaaDoor
open Go.RowKit Go.Sort

def refL (v : Value) (p c wh : Nat) : List Value := [v, .int .i64 (p : Nat), .int .i64 (c : Nat), .int .i64 (wh : Nat)]
def RefIs (w : World) (r : Nat) (l : List UInt8) (at' f : Nat) : Prop :=
  ∃ ao cap, Row w r 49 (refL (.slice ao l.length cap) at' f (whereV at' f)) ∧ By w ao l ∧ l.length ≤ cap ∧ (∀ a, ao = some a → a.block ≠ r) ∧ at' ≤ l.length ∧ l.length ≤ 140737488351232
set_option maxRecDepth 20000 in
set_option maxHeartbeats 3200000 in
theorem fail_any (r p c wh wh' f : Nat) (v : Value) (w : World) (hR : Row w r 49 (refL v p c wh)) : Calls Tryd.prog 88 #[.pointer (some ⟨r, 0, none⟩), .int .i64 (wh' : Nat), .int .i64 (f : Nat)] w fun e w' => e = .returned (.tuple #[]) ∧ Row w' r 49 (refL v wh' f wh') ∧ w.grownBy w' (some r) := by
  have c2 : w.cell? ⟨r, 2, none⟩ = some (.int .i64 (c : Nat)) := hR.cell 2
  have c3 : w.cell? ⟨r, 3, none⟩ = some (.int .i64 (wh : Nat)) := hR.cell 3
  have c1 : w.cell? ⟨r, 1, none⟩ = some (.int .i64 (p : Nat)) := hR.cell 1
  have f2 := hR.frozen 2
  have f3 := hR.frozen 3
  have f1 := hR.frozen 1
  have R3 : Hid (Row (((w.setCell ⟨r, 2, none⟩ (.int .i64 (f : Nat))).setCell ⟨r, 3, none⟩ (.int .i64 (wh' : Nat))).setCell ⟨r, 1, none⟩ (.int .i64 (wh' : Nat))) r 49 (refL v wh' f wh')) := ((hR.set 2 _).set 3 _).set 1 _
  have G3 : Hid (w.grownBy (((w.setCell ⟨r, 2, none⟩ (.int .i64 (f : Nat))).setCell ⟨r, 3, none⟩ (.int .i64 (wh' : Nat))).setCell ⟨r, 1, none⟩ (.int .i64 (wh' : Nat))) (some r)) :=
    grown_trans (grown_trans (setCells_grown [_] 2 w) (setCells_grown [_] 3 _)) (setCells_grown [_] 1 _)
  clear hR
  go_enter Tryd.func88, Tryd.ntmps88
  go_wp2
  go_end0
  exact ⟨rfl, R3.out, G3.out⟩
set_option maxRecDepth 20000 in
set_option maxHeartbeats 3200000 in
theorem fixed_wrong (r n p f wh : Nat) (hf : f ≠ 0) (v : Value) (w : World) (hR : Row w r 49 (refL v p f wh)) : Calls Tryd.prog 63 #[.pointer (some ⟨r, 0, none⟩), .int .i64 (n : Nat)] w fun e w' => e = .returned (.int .u64 0) ∧ w' = w := by
  have c2 : w.cell? ⟨r, 2, none⟩ = some (.int .i64 (f : Nat)) := hR.cell 2
  have h1 : ((f : Int) == 0) = false := by simp; omega
  have h2 : ((f : Int) != 0) = true := by simp; omega
  clear hR
  go_enter Tryd.func63, Tryd.ntmps63
  go_wp2
  go_ret
  exact ⟨rfl, rfl⟩
set_option maxRecDepth 20000 in
set_option maxHeartbeats 3200000 in
theorem fixed_ends (r n at' len cap wh : Nat) (ao : Option Addr) (h1 : ¬ at' + n ≤ len) (h4 : at' ≤ len) (h3 : len ≤ 140737488351232) (w : World) (hR : Row w r 49 (refL (.slice ao len cap) at' 0 wh)) : Calls Tryd.prog 63 #[.pointer (some ⟨r, 0, none⟩), .int .i64 (n : Nat)] w fun e w' => e = .returned (.int .u64 0) ∧ Row w' r 49 (refL (.slice ao len cap) at' 30 at') ∧ w.grownBy w' (some r) := by
  have c0 : w.cell? ⟨r, 0, none⟩ = some (.slice ao len cap) := hR.cell 0
  have c1 : w.cell? ⟨r, 1, none⟩ = some (.int .i64 (at' : Nat)) := hR.cell 1
  have c2 : w.cell? ⟨r, 2, none⟩ = some (.int .i64 0) := hR.cell 2
  have hd : decide ((len : Int) - (at' : Int) < (n : Int)) = true := by simp; omega
  have HF := hid' (fail_any r at' 0 wh at' 30 _ w.drew hR)
  clear hR
  go_enter Tryd.func63, Tryd.ntmps63
  go_upto_region 3 with fail
  go_region
  go_wp2_with (go_at_call 88; refine HF.out.mono ?_; rintro e w2 ⟨rfl, r2, g2⟩)
  go_ret
  exact ⟨rfl, r2, ⟨g2.os, g2.tape, g2.output, g2.size, g2.block⟩⟩
/-- The number from a place on, the highest byte first. -/
theorem num_down (l : List UInt8) (a k n : Nat) (h : a + (k + 1 + n) ≤ l.length) : num ((l.drop (a + k)).take (n + 1)) = (l.getD (a + k) 0).toNat + 256 * num ((l.drop (a + (k + 1))).take n) := by
  have hlt : a + k < l.length := by omega
  rw [List.drop_eq_getElem_cons hlt, List.take_succ_cons]
  show l[a + k].toNat + 256 * num _ = _
  simp [List.getD, hlt, Nat.add_assoc]
theorem or_down {C X n : Nat} (hC : C < 256 ^ n) (hX : X < 2 ^ 8) (hn : n < 8) : bits .or .u64 (IntKind.u64.wrap ((C : Int) * 256)) (X : Int) = ((X + 256 * C : Nat) : Int) := by
  have hp : 256 ^ n ≤ 256 ^ 7 := Nat.pow_le_pow_right (by decide) (by omega)
  have h1 : IntKind.u64.wrap ((C : Int) * 256) = ((256 * C : Nat) : Int) := by
    rw [IntKind.wrap_u64]; omega
  rw [h1, u64_or_nat _ _ (by omega) (by omega)]
  congr 1
  have := Nat.two_pow_add_eq_or_of_lt (i := 8) hX C
  rw [show (2 : Nat) ^ 8 = 256 from rfl] at this
  omega
set_option maxRecDepth 20000 in
set_option maxHeartbeats 3200000 in
theorem fixed_ok (r b off cap at' wh n : Nat) (l : List UInt8) (hn : n ≤ 8) (hn0 : 0 < n) (h1 : at' + n ≤ l.length) (h3 : l.length ≤ 140737488351232) (w : World) (hR : Row w r 49 (refL (.slice (some ⟨b, off, none⟩) l.length cap) at' 0 wh)) (hb : By w (some ⟨b, off, none⟩) l) : Calls Tryd.prog 63 #[.pointer (some ⟨r, 0, none⟩), .int .i64 (n : Nat)] w fun e w' => e = .returned (.int .u64 (num ((l.drop at').take n) : Nat)) ∧ Row w' r 49 (refL (.slice (some ⟨b, off, none⟩) l.length cap) (at' + n) 0 wh) ∧ w.grownBy w' (some r) := by
  have HR := hid' hR
  have HB := hid' hb
  have c0 : w.cell? ⟨r, 0, none⟩ = some (.slice (some ⟨b, off, none⟩) l.length cap) := hR.cell 0
  have c1 : w.cell? ⟨r, 1, none⟩ = some (.int .i64 (at' : Nat)) := hR.cell 1
  have c2 : w.cell? ⟨r, 2, none⟩ = some (.int .i64 0) := hR.cell 2
  have hd : decide ((l.length : Int) - (at' : Int) < (n : Int)) = false := by simp; omega
  clear hR hb
  go_enter Tryd.func63, Tryd.ntmps63
  go_upto_region 3 with fail
  go_region
  go_wp2
  go_loopw [5, 6] (fun vv vk wr => ∃ (m : Nat) (z : Int), m ≤ n ∧ z = (m : Int) - 1 ∧ vk = .int .i64 z ∧ vv = .int .u64 (num ((l.drop (at' + m)).take (n - m)) : Nat) ∧ Hid (Gr w wr)) (fun _ vk _ => (intOf vk + 1).toNat)
  case atStart => exact ⟨n, _, Nat.le_refl _, rfl, rfl, by rw [Nat.sub_self]; rfl, (Gr.refl w).drew⟩
  case round =>
    obtain ⟨m, z, hm, hz, rfl, rfl, hG⟩ := hrel
    cases m with
    | succ q =>
      obtain rfl : z = (q : Int) := by omega
      clear hz
      have d0 := below_cell c0 hG.out.below
      have d1 := below_cell c1 hG.out.below
      obtain ⟨b', off', e', hcell⟩ := HB.out (at' + q) (by omega)
      cases e'
      have d2 := below_cell hcell hG.out.below
      clear hcell
      have hX := (l.getD (at' + q) 0).toNat_lt
      have HS := hid' (num_down l at' q (n - (q + 1)) (by omega))
      rw [show n - (q + 1) + 1 = n - q from by omega] at HS
      have hC := num_lt ((l.drop (at' + (q + 1))).take (n - (q + 1)))
      rw [show ((l.drop (at' + (q + 1))).take (n - (q + 1))).length = n - (q + 1) from by simp; omega] at hC
      have hE := or_down hC hX (by omega)
      clear hC
      generalize (l.getD (at' + q) 0).toNat = X at *
      generalize num ((l.drop (at' + (q + 1))).take (n - (q + 1))) = C at *
      go_upto_region 10 with fail
      go_region
      go_wp2
      go_roundw
      case rel => exact ⟨q, (q : Int) - 1, by omega, rfl, rfl, by rw [HS.out]; simp, hG.out.drew⟩
      case measure => simp [intOf]
    | zero =>
      obtain rfl : z = -1 := by omega
      clear hz
      have d1 := below_cell c1 hG.out.below
      have R2 := HR.out.below hG.out.below HR.out.lt
      have f1 := R2.frozen 1
      have R3 : Hid (Row (wr.setCell ⟨r, 1, none⟩ (.int .i64 ((at' : Int) + (n : Int)))) r 49 (refL (.slice (some ⟨b, off, none⟩) l.length cap) (at' + n) 0 wh)) := by
        have := R2.set 1 (.int .i64 ((at' + n : Nat)))
        rw [show ((at' + n : Nat) : Int) = (at' : Int) + (n : Int) from by omega] at this
        exact (show (refL (.slice (some ⟨b, off, none⟩) l.length cap) at' 0 wh).set 1 (.int .i64 ((at' : Int) + (n : Int))) = refL (.slice (some ⟨b, off, none⟩) l.length cap) (at' + n) 0 wh from by unfold refL; simp) ▸ this
      have G3 : Hid (w.grownBy (wr.setCell ⟨r, 1, none⟩ (.int .i64 ((at' : Int) + (n : Int)))) (some r)) := grown_trans (below_grown hG.out.below _) (setCells_grown [_] 1 wr)
      rw [Nat.add_zero, Nat.sub_zero]
      generalize hN : num ((l.drop at').take n) = N at *
      have HN := hid' hN
      clear hN R2 hG HR HB
      go_wp2
      go_ret
      exact ⟨by rw [HN.out]; rfl, R3.out, G3.out⟩
end Go.Proofs.YtomklacjaadcaaaDoor
