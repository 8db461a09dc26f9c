/- How rows of numbered boxes, of whole numbers and of calls are read. -/
import Derived.Test.YtpikhdfndnpidaaFrame
import Derived.Test.YtpikhdfndnpidaaTd
import Derived.SizedLaws
import Derived.Deep.Slices
import Derived.Carry
namespace Go.Proofs.Ytpikhdfndnpidaa
open Go.ChangeShapes Go.WideShapes Go.ChangeAt Go.RowKit Go.Joins

theorem laidOut : laidOutB Try.prog = true := by kernel_rfl
theorem add_none (b off k : Nat) : (⟨b, off, none⟩ : Addr).add k = ⟨b, off + k, none⟩ := by unfold Addr.add; split <;> simp_all
section
variable {H : Type} {enc : TypeId × Value → H} {w : World} {base : Nat} {spare : Nat → Bool} {held : Bool}
set_option maxRecDepth 100000 in
theorem open_nums {fuel : Nat} {a0 : Option Addr} {len cap : Nat} {z : DataW H × List MemPlace} (hf : DataW.trod enc Try.prog w base spare held fuel 44 (Value.slice a0 len cap).cells.toList = some z) :
    ∃ l : List E, l.length = len ∧ Nums w a0 l := by
  rcases Go.Deep.open_slice Try.underlying44 hf with ⟨hcs, hx⟩ | ⟨a, len', cap', m, n, D, Pl, hcs, _, hl, hm, hmm, hx, hc⟩
  · simp [Value.cells] at hcs
    obtain ⟨rfl, rfl, rfl⟩ := hcs
    exact ⟨[], rfl, fun k x hk => by cases hk⟩
  · simp [Value.cells] at hcs
    obtain ⟨rfl, rfl, rfl⟩ := hcs
    have hm' : len ≤ m := by rw [hmm]; split <;> omega
    rw [Try.cells47] at hc
    obtain ⟨X, hX⟩ := Go.Deep.choose_lt (α := E) (n := m) (p := fun i x => w.cell? ((a.add (i * 5)).add 0) = some (.int .u32 x.1) ∧ w.cell? ((a.add (i * 5)).add 1) = some (.int .i32 x.2.1) ∧ w.cell? ((a.add (i * 5)).add 2) = some (.int .i32 x.2.2.1) ∧ w.cell? ((a.add (i * 5)).add 3) = some (.int .i32 x.2.2.2.1) ∧ w.cell? ((a.add (i * 5)).add 4) = some (.int .i32 x.2.2.2.2)) (fun i hi => by
      obtain ⟨cs', h1, h2⟩ := hc i hi
      obtain ⟨_, _, hcell⟩ := World.cells?_some h1
      obtain ⟨i0, p, q, r, s, rfl, _, _⟩ := trod_num h2
      exact ⟨(i0, p, q, r, s), hcell 0 (by omega), hcell 1 (by omega), hcell 2 (by omega), hcell 3 (by omega), hcell 4 (by omega)⟩)
    refine ⟨(List.range len).map X, by simp, fun k x hk => ?_⟩
    have hk' : k < len := by have := (List.getElem?_eq_some_iff.1 hk).1; simpa using this
    have ex : X k = x := by simpa [hk'] using hk
    obtain ⟨b, off, spot⟩ := a
    obtain ⟨c0, c1, c2, c3, c4⟩ := hX k (by omega)
    have hspot : spot = none := by simpa [Addr.add] using World.cell?_spot (hX 0 (by omega)).1
    subst hspot
    rw [ex] at c0 c1 c2 c3 c4
    simp only [add_none] at c0 c1 c2 c3 c4
    exact ⟨b, off, rfl, c0, c1, c2, c3, c4⟩
set_option maxRecDepth 100000 in
theorem open_ints {fuel : Nat} {a0 : Option Addr} {len cap : Nat} {z : DataW H × List MemPlace} (hf : DataW.trod enc Try.prog w base spare held fuel 45 (Value.slice a0 len cap).cells.toList = some z) :
    ∃ l : List Int, l.length = len ∧ Ints w a0 l := by
  rcases Go.Deep.open_slice1 Try.underlying45 Try.cells3 hf with ⟨hcs, hx⟩ | ⟨a, len', cap', m, n, V, D, Pl, hcs, _, hl, hm, hmm, hx, hc⟩
  · simp [Value.cells] at hcs
    obtain ⟨rfl, rfl, rfl⟩ := hcs
    exact ⟨[], rfl, fun k x hk => by cases hk⟩
  · simp [Value.cells] at hcs
    obtain ⟨rfl, rfl, rfl⟩ := hcs
    have hm' : len ≤ m := by rw [hmm]; split <;> omega
    obtain ⟨X, hX⟩ := Go.Deep.choose_lt (α := Int) (n := m) (p := fun i x => w.cell? (a.add i) = some (.int .i64 x)) (fun i hi => by
      obtain ⟨h1, h2⟩ := hc i hi
      obtain ⟨x, e, _, _⟩ := DataW.trod_int Try.underlying3 h2
      simp only [List.cons.injEq, and_true] at e
      exact ⟨x, by rw [h1, e]⟩)
    refine ⟨(List.range len).map X, by simp, fun k x hk => ?_⟩
    have hk' : k < len := by have := (List.getElem?_eq_some_iff.1 hk).1; simpa using this
    have ex : X k = x := by simpa [hk'] using hk
    obtain ⟨b, off, spot⟩ := a
    have c0 := hX k (by omega)
    have hspot : spot = none := by simpa [Addr.add] using World.cell?_spot (hX 0 (by omega))
    subst hspot
    rw [ex, add_none] at c0
    exact ⟨b, off, rfl, c0⟩
end
end Go.Proofs.Ytpikhdfndnpidaa
