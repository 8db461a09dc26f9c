/- An In in memory; contracts of ahead and of the takes of numbers, in every state. -/
import Derived.Test.YtomklacjaadcaaaDoorTake
namespace Go.Proofs.YtomklacjaadcaaaDoor
open Go.RowKit Go.Sort

/-- An In: its bytes, its place, its fault. -/
def InIs (w : World) (i : Nat) (l : List UInt8) (at' f : Nat) : Prop :=
  ∃ ao cap, Row w i 51 (inL (.slice ao l.length cap) at' f) ∧ By w ao l ∧ l.length ≤ cap ∧ (∀ a, ao = some a → a.block ≠ i) ∧ at' ≤ l.length ∧ l.length ≤ 140737488351232
theorem InIs.grown {w w' : World} {i : Nat} {l : List UInt8} {at' f : Nat} {row : Option Nat} (h : InIs w i l at' f) (k : w.grownBy w' row) (hi : some i ≠ row) (hb : ∀ ao cap, Row w i 51 (inL (.slice ao l.length cap) at' f) → ∀ a, ao = some a → some a.block ≠ row) : InIs w' i l at' f := by
  obtain ⟨ao, cap, h1, h2, h3, h4, h5, h6⟩ := h
  exact ⟨ao, cap, h1.grown k hi, h2.grown k (hb ao cap h1), h3, h4, h5, h6⟩
theorem InIs.below {w w' : World} {i : Nat} {l : List UInt8} {at' f : Nat} (h : InIs w i l at' f) (k : Below w.heap.size w w') : InIs w' i l at' f := by
  obtain ⟨ao, cap, h1, h2, h3, h4, h5, h6⟩ := h
  exact ⟨ao, cap, h1.below k h1.lt, h2.mono k, h3, h4, h5, h6⟩
/-- What a take of n bytes gives: the number, the place, the fault. -/
def fixV (l : List UInt8) (n at' f : Nat) : Nat := if f = 0 ∧ at' + n ≤ l.length then num ((l.drop at').take n) else 0
def fixA (l : List UInt8) (n at' f : Nat) : Nat := if f = 0 ∧ at' + n ≤ l.length then at' + n else at'
def fixF (l : List UInt8) (n at' f : Nat) : Nat := if f = 0 then (if at' + n ≤ l.length then 0 else 30) else f
theorem fix_yes {l : List UInt8} {n at' : Nat} (h : at' + n ≤ l.length) : fixV l n at' 0 = num ((l.drop at').take n) ∧ fixA l n at' 0 = at' + n ∧ fixF l n at' 0 = 0 := by
  unfold fixV fixA fixF
  simp [h]
theorem fix_ends {l : List UInt8} {n at' : Nat} (h : ¬ at' + n ≤ l.length) : fixV l n at' 0 = 0 ∧ fixA l n at' 0 = at' ∧ fixF l n at' 0 = 30 := by
  unfold fixV fixA fixF
  simp [h]
theorem fix_no {l : List UInt8} {n at' f : Nat} (h : f ≠ 0) : fixV l n at' f = 0 ∧ fixA l n at' f = at' ∧ fixF l n at' f = f := by
  unfold fixV fixA fixF
  simp [h]
theorem inL_fault (v : Value) (a f b : Nat) : (inL v a f).set 2 (.int .i64 (b : Nat)) = inL v a b := rfl
set_option maxRecDepth 20000 in
set_option maxHeartbeats 3200000 in
theorem ahead_nil (n : Int) (w : World) : Calls Tryd.prog 76 #[.pointer none, .int .i64 n] w fun e w' => e = .returned (.tuple #[.slice none 0 0, .bool false]) ∧ w' = w := by
  go_enter Tryd.func76, Tryd.ntmps76
  go_wp2
  go_ret2
  exact ⟨rfl, rfl⟩
set_option maxRecDepth 20000 in
set_option maxHeartbeats 3200000 in
theorem ahead_wrong (i n f at' : Nat) (hf : f ≠ 0) (v : Value) (w : World) (hR : Row w i 51 (inL v at' f)) :
    Calls Tryd.prog 76 #[.pointer (some ⟨i, 0, none⟩), .int .i64 n] w fun e w' => e = .returned (.tuple #[.slice none 0 0, .bool false]) ∧ w' = w := by
  have c2 : w.cell? ⟨i, 2, none⟩ = some (.int .i64 (f : Nat)) := hR.cell 2
  have h1 : ((f : Int) == 0) = false := by simp; omega
  have h2 : ((f : Int) != 0) = true := by simp; omega
  clear hR
  go_enter Tryd.func76, Tryd.ntmps76
  go_wp2
  go_ret2
  exact ⟨rfl, rfl⟩
set_option maxRecDepth 20000 in
set_option maxHeartbeats 3200000 in
theorem ahead_ends (i len cap at' n : Nat) (ao : Option Addr) (h1 : ¬ at' + n ≤ len) (h4 : at' ≤ len) (h3 : len ≤ 140737488351232) (w : World) (hR : Row w i 51 (inL (.slice ao len cap) at' 0)) :
    Calls Tryd.prog 76 #[.pointer (some ⟨i, 0, none⟩), .int .i64 n] w fun e w' => e = .returned (.tuple #[.slice none 0 0, .bool false]) ∧ Row w' i 51 (inL (.slice ao len cap) at' 30) ∧ w.grownBy w' (some i) := by
  have c0 : w.cell? ⟨i, 0, none⟩ = some (.slice ao len cap) := hR.cell 0
  have c1 : w.cell? ⟨i, 1, none⟩ = some (.int .i64 (at' : Nat)) := hR.cell 1
  have c2 : w.cell? ⟨i, 2, none⟩ = some (.int .i64 0) := hR.cell 2
  have f2 := hR.frozen 2
  have HR := hid' hR
  have hd : decide ((len : Int) - (at' : Int) < (n : Int)) = true := by simp; omega
  clear hR
  go_enter Tryd.func76, Tryd.ntmps76
  go_upto_region 3 with fail
  go_region
  go_wp2
  go_ret2
  refine ⟨rfl, HR.out.set 2 _, ?_⟩
  have g := setCells_grown (g := i) [.int .i64 30] 2 w
  exact ⟨g.os, g.tape, g.output, g.size, g.block⟩
end Go.Proofs.YtomklacjaadcaaaDoor
