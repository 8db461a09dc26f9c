/- How the walks' arguments are read. -/
import Derived.Test.YtjnjpjpgokdciaaDoorWz
import Derived.Test.YtjnjpjpgokdciaaDoorCards
import Derived.Test.YtjnjpjpgokdciaaDoorTie
import Derived.ProofKit
import Derived.OpenShut
import Derived.Lib.SmallJoins
import Derived.Lib.LaidTab
import Derived.Deep.Slices
import Derived.Deep.SlicePairs
import Derived.Lay
import Derived.Stop.Joined
import Derived.Stop.LaidErr
import Derived.SevenTiedAt
import Derived.SizedLaws
import Derived.Carry
namespace Go.Proofs.YtjnjpjpgokdciaaDoor
open Go.ChangeShapes Go.WideShapes Go.ChangeAt Go.RowKit Go.Joins

theorem own : ownKnob Tryd.prog.godebug = none := by kernel_rfl
theorem laidOut : laidOutB Tryd.prog = true := by kernel_rfl
theorem Tryd.cells39 : Tryd.prog.cellsOf 39 = 1 := by kernel_rfl
theorem Tryd.cells4 : Tryd.prog.cellsOf 4 = 1 := by kernel_rfl
theorem Tryd.cells61 : Tryd.prog.cellsOf 61 = 1 := by kernel_rfl
theorem Tryd.cells65 : Tryd.prog.cellsOf 65 = 2 := by kernel_rfl
theorem Tryd.cells5 : Tryd.prog.cellsOf 5 = 1 := by kernel_rfl
theorem Tryd.cells131 : Tryd.prog.cellsOf 131 = 64 := by kernel_rfl
theorem tab_of_tabIs {W : World} (h : Lib.TabIs Tryd.prog W "math/bits.deBruijn64tab" .u8 (Lib.deBruijn64tab.map (fun n : Nat => (n : Int)))) : Tab W := fun j hj => by
  have := h.cell (show Tryd.prog.globalNamed "math/bits.deBruijn64tab" = some 0 by kernel_rfl) j (by simpa using hj)
  rw [this]
  simp [List.getD, hj]
theorem tab_of_laid {W : World} (h : laidMet Tryd.prog Rows.tableWalksRow.laid W) : Tab W :=
  tab_of_tabIs (Lib.tabIs_of_head (zs := Lib.deBruijn64tab.map (fun n : Nat => (n : Int))) (show Tryd.prog.globalNamed "math/bits.deBruijn64tab" = some 0 by kernel_rfl) (show (Tryd.prog.globals[0]?).map (·.type) = some 131 by kernel_rfl) Tryd.underlying131 Tryd.underlying5 Tryd.cells5 Tryd.cells131 h)
theorem add_none (b off k : Nat) : (⟨b, off, none⟩ : Addr).add k = ⟨b, off + k, none⟩ := by unfold Addr.add; split <;> simp_all
theorem bulk_pos {H : Type} (d : DataW H) : 1 ≤ Rows.uptoBulk d := by
  cases d with
  | lit l => cases l <;> simp [Rows.uptoBulk]
  | _ => simp [Rows.uptoBulk]
theorem bulk_many {H : Type} : ∀ l : List (DataW H), l.length ≤ Rows.uptoBulkAll l
  | [] => by simp [Rows.uptoBulkAll]
  | d :: r => by
    have a := bulk_pos d
    have b := bulk_many r
    simp only [Rows.uptoBulkAll, List.length_cons]
    omega
theorem bulk_sum {H : Type} (f : Nat → Cl) (D : Nat → DataW H) : ∀ L : List Nat, (∀ i ∈ L, (f i).2.2.length ≤ Rows.uptoBulk (D i)) → sumL (L.map f) ≤ Rows.uptoBulkAll (L.map D)
  | [], _ => by simp [sumL]
  | i :: L, h => by
    have a := bulk_sum f D L (fun j hj => h j (List.mem_cons_of_mem _ hj))
    have b := h i (List.mem_cons_self ..)
    simp only [sumL, List.map_cons, List.sum_cons, Rows.uptoBulkAll] at *
    omega
section
variable {H : Type} {enc : TypeId × Value → H} {w : World} {base : Nat} {spare : Nat → Bool} {held : Bool}
set_option maxRecDepth 100000 in
theorem open_us {fuel : Nat} {c : Value} {z : DataW H × List MemPlace} (hf : DataW.trod enc Tryd.prog w base spare held fuel 56 [c] = some z) :
    ∃ (a0 : Option Addr) (cap : Nat) (l : List Int), c = .slice a0 l.length cap ∧ Us w a0 l ∧ l.length ≤ Rows.uptoBulk z.1 := by
  rcases Go.Deep.open_slice1 Tryd.underlying56 Tryd.cells39 hf with ⟨hcs, hx⟩ | ⟨a, len, cap, m, n, V, D, Pl, hcs, _, hl, hm, hmm, hx, hc⟩
  · simp only [List.cons.injEq, and_true] at hcs
    subst hcs
    exact ⟨none, 0, [], rfl, fun k x hk => (by cases hk), by simp⟩
  · simp only [List.cons.injEq, and_true] at hcs
    subst hcs
    have hm' : len ≤ m := by rw [hmm]; split <;> omega
    have hbk : len ≤ Rows.uptoBulk z.1 := by
      have := bulk_many ((List.range len).map D)
      rw [hx]
      simp only [Rows.uptoBulk, List.length_map, List.length_range] at *
      omega
    obtain ⟨X, hX⟩ := Go.Deep.choose_lt (α := Int) (n := m) (p := fun i x => w.cell? (a.add i) = some (.int .u32 x)) (fun i hi => by
      obtain ⟨h1, h2⟩ := hc i hi
      obtain ⟨x, e, _, _⟩ := DataW.trod_int Tryd.underlying39 h2
      simp only [List.cons.injEq, and_true] at e
      exact ⟨x, by rw [h1, e]⟩)
    refine ⟨some a, cap, (List.range len).map X, by simp, fun k x hk => ?_, by simpa using hbk⟩
    have hk' : k < len := by have := (List.getElem?_eq_some_iff.1 hk).1; simpa using this
    have ex : X k = x := by simpa [hk'] using hk
    obtain ⟨b, off, spot⟩ := a
    have c0 := hX k (by omega)
    have hspot : spot = none := by simpa [Addr.add] using World.cell?_spot (hX 0 (by omega))
    subst hspot
    rw [ex, add_none] at c0
    exact ⟨b, off, rfl, c0⟩
set_option maxRecDepth 100000 in
theorem open_cs {fuel : Nat} {c : Value} {z : DataW H × List MemPlace} (hf : DataW.trod enc Tryd.prog w base spare held fuel 61 [c] = some z) :
    ∃ (x : Cl), c = .slice x.1 x.2.2.length x.2.1 ∧ Cs w x.1 x.2.2 ∧ x.2.2.length ≤ Rows.uptoBulk z.1 := by
  rcases Go.Deep.open_slice_pairs Tryd.underlying61 Tryd.underlying65 Tryd.cells65 rfl rfl Tryd.cells39 Tryd.cells4 hf with ⟨hcs, hx⟩ | ⟨a, len, cap, m, n, V0, V1, D0, D1, P0, P1, hcs, _, hl, hm, hmm, hx, hc⟩
  · simp only [List.cons.injEq, and_true] at hcs
    subst hcs
    exact ⟨(none, 0, []), rfl, fun k x hk => (by cases hk), by simp⟩
  · simp only [List.cons.injEq, and_true] at hcs
    subst hcs
    have hm' : len ≤ m := by rw [hmm]; split <;> omega
    have hbk : len ≤ Rows.uptoBulk z.1 := by
      have := bulk_many ((List.range len).map fun i => DataW.agg [D0 i, D1 i])
      rw [hx]
      simp only [Rows.uptoBulk, List.length_map, List.length_range] at *
      omega
    obtain ⟨X, hX⟩ := Go.Deep.choose_lt (α := Ch1) (n := m) (p := fun i x => w.cell? (a.add (i * 2)) = some (.int .u32 x.1) ∧ w.cell? (a.add (i * 2 + 1)) = some (.bool x.2)) (fun i hi => by
      obtain ⟨h1, h2, h3, h4⟩ := hc i hi
      obtain ⟨x, e, _, _⟩ := DataW.trod_int Tryd.underlying39 h3
      obtain ⟨y, e2, _⟩ := DataW.trod_bool Tryd.underlying4 h4
      simp only [List.cons.injEq, and_true] at e e2
      exact ⟨(x, y), by rw [h1, e], by rw [h2, e2]⟩)
    refine ⟨(some a, cap, (List.range len).map X), by simp, fun k x hk => ?_, by simpa using hbk⟩
    have hk' : k < len := by have := (List.getElem?_eq_some_iff.1 hk).1; simpa using this
    have ex : X k = x := by simpa [hk'] using hk
    obtain ⟨b, off, spot⟩ := a
    obtain ⟨c0, c1⟩ := hX k (by omega)
    have hspot : spot = none := by simpa [Addr.add] using World.cell?_spot (hX 0 (by omega)).1
    subst hspot
    rw [ex, add_none] at c0 c1
    exact ⟨b, off, rfl, c0, by rw [Nat.add_assoc]; exact c1⟩
set_option maxRecDepth 100000 in
theorem open_css {fuel : Nat} {c : Value} {z : DataW H × List MemPlace} (hf : DataW.trod enc Tryd.prog w base spare held fuel 57 [c] = some z) :
    ∃ (a0 : Option Addr) (cap : Nat) (l : List Cl), c = .slice a0 l.length cap ∧ Css w a0 l ∧ sumL l ≤ Rows.uptoBulk z.1 ∧ l.length ≤ Rows.uptoBulk z.1 := by
  rcases Go.Deep.open_slice1 Tryd.underlying57 Tryd.cells61 hf with ⟨hcs, hx⟩ | ⟨a, len, cap, m, n, V, D, Pl, hcs, _, hl, hm, hmm, hx, hc⟩
  · simp only [List.cons.injEq, and_true] at hcs
    subst hcs
    exact ⟨none, 0, [], rfl, fun k x hk => (by cases hk), by simp [sumL], by simp⟩
  · simp only [List.cons.injEq, and_true] at hcs
    subst hcs
    have hm' : len ≤ m := by rw [hmm]; split <;> omega
    obtain ⟨X, hX⟩ := Go.Deep.choose_lt (α := Cl) (n := m) (p := fun i x => w.cell? (a.add i) = some (.slice x.1 x.2.2.length x.2.1) ∧ Cs w x.1 x.2.2 ∧ x.2.2.length ≤ Rows.uptoBulk (D i)) (fun i hi => by
      obtain ⟨h1, h2⟩ := hc i hi
      obtain ⟨x, e, hx, hb⟩ := open_cs h2
      exact ⟨x, by rw [h1, e], hx, hb⟩)
    have hs := bulk_sum X D (List.range len) (fun i hi => (hX i (by have := List.mem_range.1 hi; omega)).2.2)
    have hbm := bulk_many ((List.range len).map D)
    have e : Rows.uptoBulk z.1 = Rows.uptoBulk (.slice ((List.range len).map D) ((List.range (m - len)).map fun j => D (len + j))) := by rw [hx]
    refine ⟨some a, cap, (List.range len).map X, by simp, fun k x hk => ?_, ?_, ?_⟩
    · have hk' : k < len := by have := (List.getElem?_eq_some_iff.1 hk).1; simpa using this
      have ex : X k = x := by simpa [hk'] using hk
      obtain ⟨b, off, spot⟩ := a
      obtain ⟨c0, c1, _⟩ := hX k (by omega)
      have hspot : spot = none := by simpa [Addr.add] using World.cell?_spot (hX 0 (by omega)).1
      subst hspot
      rw [ex, add_none] at c0
      rw [ex] at c1
      exact ⟨⟨b, off, rfl, c0⟩, c1⟩
    · rw [e]; simp only [Rows.uptoBulk]; omega
    · rw [e]; simp only [Rows.uptoBulk, List.length_map, List.length_range] at *; omega
end
end Go.Proofs.YtjnjpjpgokdciaaDoor
