/- How lists of points, and lists of such, are read off an argument. -/
import Derived.Test.YtpdhknclhpifkabFrame
import Derived.Test.YtpdhknclhpifkabRf
import Derived.SizedLaws
import Derived.Deep.SlicePairs
import Derived.Deep.Slices
import Derived.Deep.Strs
import Derived.Carry
namespace Go.Proofs.Ytpdhknclhpifkab
open Go.ChangeShapes Go.WideShapes Go.ChangeAt Go.RowKit Go.Joins

theorem laidOut : laidOutB Try.prog = true := by kernel_rfl
theorem bytes25 : Try.prog.bytesOf 25 = 8 := by kernel_rfl
theorem Try.cells22 : Try.prog.cellsOf 22 = 1 := by kernel_rfl
theorem weightsAll_mem {H : Type} {P : Program} {e : TypeId} : ∀ {l : List (DataW H)} {d : DataW H}, d ∈ l → ∀ n ∈ d.weights P e, n ∈ DataW.weightsAll P e l
  | d' :: r, d, hd, n, hn => by
    simp only [DataW.weightsAll, List.mem_append]
    rcases List.mem_cons.1 hd with rfl | h
    · exact Or.inl hn
    · exact Or.inr (weightsAll_mem h n hn)
theorem addr_add (b off k : Nat) : (⟨b, off, none⟩ : Addr).add k = ⟨b, off + k, none⟩ := by unfold Addr.add; split <;> simp_all

section
variable {H : Type} {enc : TypeId × Value → H} {W : World}
set_option maxRecDepth 100000 in
theorem open_pts {n : Nat} {c : Value} {y : DataW H × List MemPlace} (h : DataW.trod enc Try.prog W 0 (fun _ => true) true n 22 [c] = some y) :
    ∃ (a0 : Option Addr) (cap : Nat) (l : List (Int × Int)), c = .slice a0 l.length cap ∧ Pts W a0 l ∧ All32 l ∧ (a0 = none → l.length = 0 ∧ cap = 0) ∧ ∀ B, (∀ k ∈ y.1.weights Try.prog 22, k ≤ B) → l.length * 8 ≤ B := by
  rcases Go.Deep.open_slice_pairs Try.underlying22 Try.underlying25 Try.cells25 rfl rfl Try.cells21 Try.cells21 h with ⟨hcs, hx⟩ | ⟨a, len', cap', m, n, V0, V1, D0, D1, P0, P1, hcs, _, hl, hm, hmm, hx, hc⟩
  · simp only [List.cons.injEq, and_true] at hcs
    subst hcs
    exact ⟨none, 0, [], rfl, fun i hi => by simp at hi, fun p hp => by simp at hp, fun _ => ⟨rfl, rfl⟩, fun B _ => by simp⟩
  · simp only [List.cons.injEq, and_true] at hcs
    subst hcs
    have hm' : len' ≤ m := by rw [hmm]; split <;> omega
    have hv : ∀ i, i < len' → W.cell? (a.add (i * 2)) = some (.int .i32 (intOf (V0 i))) ∧ W.cell? (a.add (i * 2 + 1)) = some (.int .i32 (intOf (V1 i))) ∧ P32 (intOf (V0 i), intOf (V1 i)) := fun i hi => by
      obtain ⟨c0, c1, t0, t1⟩ := hc i (by omega)
      obtain ⟨x, e0, _, wx⟩ := DataW.trod_int Try.underlying21 t0
      obtain ⟨y, e1, _, wy⟩ := DataW.trod_int Try.underlying21 t1
      simp only [List.cons.injEq, and_true] at e0 e1
      rw [c0, c1, e0, e1]
      exact ⟨rfl, rfl, wf_i32 wx, wf_i32 wy⟩
    have hB : ∀ B, (∀ k ∈ y.1.weights Try.prog 22, k ≤ B) → len' * 8 ≤ B := fun B hB => by
      have := hB ((len' + (m - len')) * 8) (by rw [hx]; simp [DataW.weights, Try.underlying22, bytes25])
      omega
    by_cases h00 : len' = 0
    · subst h00
      exact ⟨some a, cap', [], rfl, fun i hi => absurd hi (by simp), fun p hp => by simp at hp, fun h => absurd h (by simp), fun B _ => by simp⟩
    · obtain ⟨b, off, spot⟩ := a
      have hspot : spot = none := by simpa [Addr.add] using World.cell?_spot (hv 0 (by omega)).1
      subst hspot
      refine ⟨some ⟨b, off, none⟩, cap', (List.range len').map fun i => (intOf (V0 i), intOf (V1 i)), by simp, fun i hi => ?_, fun p hp => ?_, fun h => absurd h (by simp), fun B hb => by simpa using hB B hb⟩
      · have hi' : i < len' := by simpa using hi
        obtain ⟨c0, c1, _⟩ := hv i hi'
        rw [addr_add] at c0 c1
        refine ⟨b, off, rfl, ?_, ?_⟩
        · rw [c0]; simp [List.getD, hi']
        · rw [Nat.add_assoc, c1]; simp [List.getD, hi']
      · obtain ⟨i, hi, rfl⟩ := List.mem_map.1 hp
        exact (hv i (List.mem_range.1 hi)).2.2

end
end Go.Proofs.Ytpdhknclhpifkab
