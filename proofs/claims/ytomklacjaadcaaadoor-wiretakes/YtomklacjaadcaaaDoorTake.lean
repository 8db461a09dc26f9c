/- Contracts of Read, of ahead where the bytes are there, of Take of 16 bits there. -/
import Derived.Test.YtomklacjaadcaaaDoorBytes
namespace Go.Proofs.YtomklacjaadcaaaDoor
open Go.RowKit Go.Sort

def inL (v : Value) (at' : Nat) (fault : Nat) : List Value := [v, .int .i64 (at' : Nat), .int .i64 (fault : Nat)]
set_option maxRecDepth 20000 in
set_option maxHeartbeats 3200000 in
theorem read_any (ao : Option Addr) (cap n : Nat) (l : List UInt8) (hn : l.length = n) (h0 : ao = none → l = [] ∧ cap = 0) (hl : n ≤ 140737488351232) (w : World) (hb : By w ao l) :
    Calls Tryd.prog 16 #[.slice ao n cap] w fun e w' => ∃ g v, e = .returned (.pointer (some ⟨g, 0, none⟩)) ∧ w.heap.size ≤ g ∧ Row w' g 51 (inL v 0 0) ∧ Own w' w.heap.size v l ∧ (∀ k, v.ownBlock = some k → k ≠ g) ∧ Below w.heap.size w w' := by
  subst hn
  have HC := hid' (clone_any ao cap l h0 hl w hb)
  clear hb h0
  go_enter Tryd.func16, Tryd.ntmps16
  go_wp2_with (go_at_call 49; refine HC.out.mono ?_; rintro e w1 ⟨v, rfl, o1, b1⟩; obtain ⟨ao', cap', rfl, _⟩ := o1.shape)
  go_ret
  refine ⟨w1.heap.size, _, rfl, b1.size, Row.new w1 51 (inL _ 0 0), World.ownsRow.alloc o1 _, fun k hk => ?_, b1.alloc b1.size _⟩
  have := (World.ownsRow.lt o1 k hk).2
  omega
set_option maxRecDepth 20000 in
set_option maxHeartbeats 3200000 in
theorem ahead_ok (i b off len cap at' n : Nat) (hn : 0 < n) (h1 : at' + n ≤ len) (h2 : len ≤ cap) (h3 : len ≤ 140737488351232) (w : World) (hR : Row w i 51 (inL (.slice (some ⟨b, off, none⟩) len cap) at' 0)) :
    Calls Tryd.prog 76 #[.pointer (some ⟨i, 0, none⟩), .int .i64 n] w fun e w' => e = .returned (.tuple #[.slice (some ⟨b, off + at', none⟩) n (cap - at'), .bool true]) ∧ Gr w w' := by
  have c0 : w.cell? ⟨i, 0, none⟩ = some (.slice (some ⟨b, off, none⟩) len cap) := hR.cell 0
  have c1 : w.cell? ⟨i, 1, none⟩ = some (.int .i64 (at' : Nat)) := hR.cell 1
  have c2 : w.cell? ⟨i, 2, none⟩ = some (.int .i64 0) := hR.cell 2
  clear hR
  go_enter Tryd.func76, Tryd.ntmps76
  go_upto_region 3 with fail
  go_region
  all_goals go_upto_region 6 with fail
  all_goals go_region
  all_goals go_wp2
  all_goals go_ret2
  refine ⟨?_, ((Gr.refl w).drew).drew⟩
  show Ending.returned (Value.tuple #[Value.slice _ (at' + n - at') _, _]) = _
  rw [Nat.add_sub_cancel_left]
  rfl
theorem inL_at (v : Value) (a f b : Nat) : (inL v a f).set 1 (.int .i64 (b : Nat)) = inL v b f := rfl
set_option maxRecDepth 20000 in
set_option maxHeartbeats 3200000 in
theorem take16_ok (i b off cap at' : Nat) (l : List UInt8) (h1 : at' + 2 ≤ l.length) (h2 : l.length ≤ cap) (h3 : l.length ≤ 140737488351232) (w : World) (hR : Row w i 51 (inL (.slice (some ⟨b, off, none⟩) l.length cap) at' 0)) (hb : By w (some ⟨b, off, none⟩) l) (hne : b ≠ i) :
    Calls Tryd.prog 33 #[.pointer (some ⟨i, 0, none⟩)] w fun e w' => e = .returned (.int .u16 (num ((l.drop at').take 2) : Nat)) ∧ Row w' i 51 (inL (.slice (some ⟨b, off, none⟩) l.length cap) (at' + 2) 0) ∧ w.grownBy w' (some i) := by
  have HA := hid' (ahead_ok i b off l.length cap at' 2 (by decide) h1 h2 h3 w hR)
  have HR := hid' hR
  have hx := num_lt ((l.drop at').take 2)
  have h4 : ((l.drop at').take 2).length = 2 := by simp; omega
  rw [h4] at hx
  have HB := hid' (hb.piece at' 2)
  clear hb hR
  go_enter Tryd.func33, Tryd.ntmps33
  go_upto_region 4 with (first
    | (go_at_call 75; refine (width75 _).mono ?_; rintro e w1 ⟨rfl, rfl⟩)
    | (go_at_call 76; refine HA.out.mono ?_; rintro e w2 ⟨rfl, g2⟩))
  have R2 := HR.out.below g2.below HR.out.lt
  have c1 : w2.cell? ⟨i, 1, none⟩ = some (.int .i64 (at' : Nat)) := R2.cell 1
  have f1 := R2.frozen 1
  have R3 : Hid (Row (w2.setCell ⟨i, 1, none⟩ (.int .i64 ((at' : Nat) + 2))) i 51 (inL (.slice (some ⟨b, off, none⟩) l.length cap) (at' + 2) 0)) := R2.set 1 _
  have G3 : Hid (w1.grownBy (w2.setCell ⟨i, 1, none⟩ (.int .i64 ((at' : Nat) + 2))) (some i)) := grown_trans (below_grown g2.below _) (setCells_grown [_] 1 w2)
  have HN := hid' (number_at (cap := cap - at') h4 (by decide) ((HB.out.grown G3.out (by intro a e; cases e; simpa using hne))))
  generalize hX : num ((l.drop at').take 2) = X at *
  have HX := hid' hX
  clear hX
  clear HB HR R2 g2 HA
  go_wp2_with (go_at_call 70; refine HN.out.mono ?_; rintro e w4 ⟨rfl, rfl⟩)
  go_ret
  exact ⟨by rw [HX.out]; rfl, R3.out, G3.out⟩
end Go.Proofs.YtomklacjaadcaaaDoor
