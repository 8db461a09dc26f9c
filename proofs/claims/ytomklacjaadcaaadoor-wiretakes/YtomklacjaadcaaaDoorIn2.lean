/- Contracts of atMost, Count, Text, At, Fault, End. -/
import Derived.Test.YtomklacjaadcaaaDoorTakes9
import Derived.Test.YtomklacjaadcaaaDoorTurnW
namespace Go.Proofs.YtomklacjaadcaaaDoor
open Go.RowKit Go.Sort

def num2 (l : List UInt8) (at' : Nat) : Nat := num ((l.drop at').take 2)
theorem num2_lt {l : List UInt8} {at' : Nat} (h : at' + 2 ≤ l.length) : num2 l at' < 65536 := by
  have := num_lt ((l.drop at').take 2)
  rw [show ((l.drop at').take 2).length = 2 from by simp; omega] at this
  exact this
set_option maxRecDepth 20000 in
set_option maxHeartbeats 3200000 in
theorem atmost_none (p : Value) (most : Int) (w : World) (Q : World → Prop) (HA : Hid (Calls Tryd.prog 76 #[p, .int .i64 2] w fun e w' => e = .returned (.tuple #[.slice none 0 0, .bool false]) ∧ Q w')) :
    Calls Tryd.prog 87 #[p, .int .i64 most] w fun e w' => e = .returned (.tuple #[.int .i64 0, .bool false]) ∧ Q w' := by
  go_enter Tryd.func87, Tryd.ntmps87
  go_wp2_with (go_at_call 76; refine HA.out.mono ?_; rintro e w2 ⟨rfl, q2⟩)
  go_ret2
  exact ⟨rfl, q2⟩
set_option maxRecDepth 20000 in
set_option maxHeartbeats 3200000 in
theorem atmost_ok (i b off cap at' : Nat) (most : Int) (l : List UInt8) (h1 : at' + 2 ≤ l.length) (h2 : l.length ≤ cap) (h3 : l.length ≤ 140737488351232) (hm : (num2 l at' : Int) ≤ max most 0) (w : World) (hR : Row w i 51 (inL (.slice (some ⟨b, off, none⟩) l.length cap) at' 0)) (hb : By w (some ⟨b, off, none⟩) l) :
    Calls Tryd.prog 87 #[.pointer (some ⟨i, 0, none⟩), .int .i64 most] w fun e w' => e = .returned (.tuple #[.int .i64 (num2 l at' : Nat), .bool true]) ∧ Gr w w' := by
  have HA := hid' (ahead_ok i b off l.length cap at' 2 (by decide) h1 h2 h3 w hR)
  have h4 : ((l.drop at').take 2).length = 2 := by simp; omega
  have HB := hid' (hb.piece at' 2)
  have hx := num2_lt h1
  have HN := hid' (fun w' (g : Gr w w') => number_at (cap := cap - at') h4 (by decide) (HB.out.mono g.below))
  change Hid (∀ w', Gr w w' → Calls Tryd.prog 70 #[.slice (some ⟨b, off + at', none⟩) 2 (cap - at')] w' fun e w'' => e = .returned (.int .u64 (num2 l at' : Nat)) ∧ w'' = w') at HN
  generalize num2 l at' = X at *
  clear HB hb hR
  go_enter Tryd.func87, Tryd.ntmps87
  go_wp2_with (first
    | (go_at_call 76; refine HA.out.mono ?_; rintro e w2 ⟨rfl, g2⟩)
    | (go_at_call 70; refine (HN.out _ g2).mono ?_; rintro e w4 ⟨rfl, rfl⟩))
  all_goals go_ret2
  all_goals exact ⟨rfl, g2⟩
set_option maxRecDepth 20000 in
set_option maxHeartbeats 3200000 in
theorem atmost_over (i b off cap at' : Nat) (most : Int) (l : List UInt8) (h1 : at' + 2 ≤ l.length) (h2 : l.length ≤ cap) (h3 : l.length ≤ 140737488351232) (hm : max most 0 < (num2 l at' : Int)) (w : World) (hR : Row w i 51 (inL (.slice (some ⟨b, off, none⟩) l.length cap) at' 0)) (hb : By w (some ⟨b, off, none⟩) l) :
    Calls Tryd.prog 87 #[.pointer (some ⟨i, 0, none⟩), .int .i64 most] w fun e w' => e = .returned (.tuple #[.int .i64 0, .bool false]) ∧ Row w' i 51 (inL (.slice (some ⟨b, off, none⟩) l.length cap) at' 31) ∧ w.grownBy w' (some i) := by
  have HA := hid' (ahead_ok i b off l.length cap at' 2 (by decide) h1 h2 h3 w hR)
  have HR := hid' hR
  have h4 : ((l.drop at').take 2).length = 2 := by simp; omega
  have HB := hid' (hb.piece at' 2)
  have hx := num2_lt h1
  have HN := hid' (fun w' (g : Gr w w') => number_at (cap := cap - at') h4 (by decide) (HB.out.mono g.below))
  change Hid (∀ w', Gr w w' → Calls Tryd.prog 70 #[.slice (some ⟨b, off + at', none⟩) 2 (cap - at')] w' fun e w'' => e = .returned (.int .u64 (num2 l at' : Nat)) ∧ w'' = w') at HN
  generalize num2 l at' = X at *
  clear HB hb hR
  go_enter Tryd.func87, Tryd.ntmps87
  go_upto_region 5 with (first
    | (go_at_call 76; refine HA.out.mono ?_; rintro e w2 ⟨rfl, g2⟩)
    | (go_at_call 70; refine (HN.out _ g2).mono ?_; rintro e w4 ⟨rfl, rfl⟩))
  have R2 := HR.out.below g2.below HR.out.lt
  have c2 : w4.cell? ⟨i, 2, none⟩ = some (.int .i64 0) := R2.cell 2
  have f2 := R2.frozen 2
  have R3 : Hid (Row (w4.setCell ⟨i, 2, none⟩ (.int .i64 31)) i 51 (inL (.slice (some ⟨b, off, none⟩) l.length cap) at' 31)) := R2.set 2 _
  have G3 : Hid (w.grownBy (w4.setCell ⟨i, 2, none⟩ (.int .i64 31)) (some i)) := grown_trans (below_grown g2.below _) (setCells_grown [_] 2 w4)
  clear R2 HR HA HN g2
  go_wp2
  all_goals go_ret2
  all_goals exact ⟨rfl, R3.out, G3.out⟩
/-- What a count gives. -/
def cntV (l : List UInt8) (most : Int) (at' f : Nat) : Nat := if f = 0 ∧ at' + 2 ≤ l.length ∧ (num2 l at' : Int) ≤ max most 0 then num2 l at' else 0
def cntA (l : List UInt8) (most : Int) (at' f : Nat) : Nat := if f = 0 ∧ at' + 2 ≤ l.length ∧ (num2 l at' : Int) ≤ max most 0 then at' + 2 else at'
def cntF (l : List UInt8) (most : Int) (at' f : Nat) : Nat := if f = 0 then (if at' + 2 ≤ l.length then (if (num2 l at' : Int) ≤ max most 0 then 0 else 31) else 30) else f
set_option maxRecDepth 20000 in
set_option maxHeartbeats 3200000 in
theorem count_none (p : Value) (most : Int) (w : World) (Q : World → Prop) (HA : Hid (Calls Tryd.prog 87 #[p, .int .i64 most] w fun e w' => e = .returned (.tuple #[.int .i64 0, .bool false]) ∧ Q w')) :
    Calls Tryd.prog 61 #[p, .int .i64 most] w fun e w' => e = .returned (.int .i64 0) ∧ Q w' := by
  go_enter Tryd.func61, Tryd.ntmps61
  go_wp2_with (go_at_call 87; refine HA.out.mono ?_; rintro e w2 ⟨rfl, q2⟩)
  go_ret
  exact ⟨rfl, q2⟩
set_option maxRecDepth 20000 in
set_option maxHeartbeats 3200000 in
theorem count_ok (i at' X : Nat) (most : Int) (v : Value) (w : World) (hat : at' ≤ 140737488351232) (hR : Row w i 51 (inL v at' 0)) (HA : Hid (Calls Tryd.prog 87 #[.pointer (some ⟨i, 0, none⟩), .int .i64 most] w fun e w' => e = .returned (.tuple #[.int .i64 (X : Nat), .bool true]) ∧ Gr w w')) :
    Calls Tryd.prog 61 #[.pointer (some ⟨i, 0, none⟩), .int .i64 most] w fun e w' => e = .returned (.int .i64 (X : Nat)) ∧ Row w' i 51 (inL v (at' + 2) 0) ∧ w.grownBy w' (some i) := by
  have HR := hid' hR
  clear hR
  go_enter Tryd.func61, Tryd.ntmps61
  go_upto_region 4 with (go_at_call 87; refine HA.out.mono ?_; rintro e w2 ⟨rfl, g2⟩)
  have R2 := HR.out.below g2.below HR.out.lt
  have c1 : w2.cell? ⟨i, 1, none⟩ = some (.int .i64 (at' : Nat)) := R2.cell 1
  have f1 := R2.frozen 1
  have R3 : Hid (Row (w2.setCell ⟨i, 1, none⟩ (.int .i64 ((at' : Nat) + 2))) i 51 (inL v (at' + 2) 0)) := R2.set 1 _
  have G3 : Hid (w.grownBy (w2.setCell ⟨i, 1, none⟩ (.int .i64 ((at' : Nat) + 2))) (some i)) := grown_trans (below_grown g2.below _) (setCells_grown [_] 1 w2)
  clear R2 HR HA g2
  go_wp2
  go_ret
  exact ⟨rfl, R3.out, G3.out⟩
end Go.Proofs.YtomklacjaadcaaaDoor
