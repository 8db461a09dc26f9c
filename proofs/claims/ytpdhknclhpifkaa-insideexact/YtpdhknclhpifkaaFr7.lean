/- How lists of points, and lists of such, are read off an argument. -/
import Derived.Test.YtpdhknclhpifkaaFrame
import Derived.Test.YtpdhknclhpifkaaWh
import Derived.SizedLaws
import Derived.Deep.SlicePairs
import Derived.Deep.Slices
import Derived.Deep.Strs
import Derived.Carry
namespace Go.Proofs.Ytpdhknclhpifkaa
open Go.ChangeShapes Go.WideShapes Go.ChangeAt Go.RowKit Go.Joins

theorem laidOut : laidOutB Try.prog = true := by kernel_rfl
theorem bytes31 : Try.prog.bytesOf 31 = 8 := by kernel_rfl
theorem bytes22 : Try.prog.bytesOf 22 = 24 := by kernel_rfl
theorem Try.cells22 : Try.prog.cellsOf 22 = 1 := by kernel_rfl
theorem weightsAll_mem {H : Type} {P : Program} {e : TypeId} : ∀ {l : List (DataW H)} {d : DataW H}, d ∈ l → ∀ n ∈ d.weights P e, n ∈ DataW.weightsAll P e l
  | d' :: r, d, hd, n, hn => by
    simp only [DataW.weightsAll, List.mem_append]
    rcases List.mem_cons.1 hd with rfl | h
    · exact Or.inl hn
    · exact Or.inr (weightsAll_mem h n hn)
theorem addr_add (b off k : Nat) : (⟨b, off, none⟩ : Addr).add k = ⟨b, off + k, none⟩ := by unfold Addr.add; split <;> simp_all

section
variable {H : Type} {enc : TypeId × Value → H} {W : World}
set_option maxRecDepth 100000 in
theorem open_pts {n : Nat} {c : Value} {y : DataW H × List MemPlace} (h : DataW.trod enc Try.prog W 0 (fun _ => true) true n 22 [c] = some y) :
    ∃ (a0 : Option Addr) (cap : Nat) (l : List (Int × Int)), c = .slice a0 l.length cap ∧ Pts W a0 l ∧ All32 l ∧ (a0 = none → l.length = 0 ∧ cap = 0) ∧ ∀ B, (∀ k ∈ y.1.weights Try.prog 22, k ≤ B) → l.length * 8 ≤ B := by
  rcases Go.Deep.open_slice_pairs Try.underlying22 Try.underlying31 Try.cells31 rfl rfl Try.cells21 Try.cells21 h with ⟨hcs, hx⟩ | ⟨a, len', cap', m, n, V0, V1, D0, D1, P0, P1, hcs, _, hl, hm, hmm, hx, hc⟩
  · simp only [List.cons.injEq, and_true] at hcs
    subst hcs
    exact ⟨none, 0, [], rfl, fun i hi => by simp at hi, fun p hp => by simp at hp, fun _ => ⟨rfl, rfl⟩, fun B _ => by simp⟩
  · simp only [List.cons.injEq, and_true] at hcs
    subst hcs
    have hm' : len' ≤ m := by rw [hmm]; split <;> omega
    have hv : ∀ i, i < len' → W.cell? (a.add (i * 2)) = some (.int .i32 (intOf (V0 i))) ∧ W.cell? (a.add (i * 2 + 1)) = some (.int .i32 (intOf (V1 i))) ∧ P32 (intOf (V0 i), intOf (V1 i)) := fun i hi => by
      obtain ⟨c0, c1, t0, t1⟩ := hc i (by omega)
      obtain ⟨x, e0, _, wx⟩ := DataW.trod_int Try.underlying21 t0
      obtain ⟨y, e1, _, wy⟩ := DataW.trod_int Try.underlying21 t1
      simp only [List.cons.injEq, and_true] at e0 e1
      rw [c0, c1, e0, e1]
      exact ⟨rfl, rfl, wf_i32 wx, wf_i32 wy⟩
    have hB : ∀ B, (∀ k ∈ y.1.weights Try.prog 22, k ≤ B) → len' * 8 ≤ B := fun B hB => by
      have := hB ((len' + (m - len')) * 8) (by rw [hx]; simp [DataW.weights, Try.underlying22, bytes31])
      omega
    by_cases h00 : len' = 0
    · subst h00
      exact ⟨some a, cap', [], rfl, fun i hi => absurd hi (by simp), fun p hp => by simp at hp, fun h => absurd h (by simp), fun B _ => by simp⟩
    · obtain ⟨b, off, spot⟩ := a
      have hspot : spot = none := by simpa [Addr.add] using World.cell?_spot (hv 0 (by omega)).1
      subst hspot
      refine ⟨some ⟨b, off, none⟩, cap', (List.range len').map fun i => (intOf (V0 i), intOf (V1 i)), by simp, fun i hi => ?_, fun p hp => ?_, fun h => absurd h (by simp), fun B hb => by simpa using hB B hb⟩
      · have hi' : i < len' := by simpa using hi
        obtain ⟨c0, c1, _⟩ := hv i hi'
        rw [addr_add] at c0 c1
        refine ⟨b, off, rfl, ?_, ?_⟩
        · rw [c0]; simp [List.getD, hi']
        · rw [Nat.add_assoc, c1]; simp [List.getD, hi']
      · obtain ⟨i, hi, rfl⟩ := List.mem_map.1 hp
        exact (hv i (List.mem_range.1 hi)).2.2

abbrev HoleOk (W : World) (h : Hole) (d : DataW H) : Prop := Pts W h.1 h.2.2 ∧ All32 h.2.2 ∧ (h.1 = none → h.2.2.length = 0 ∧ h.2.1 = 0) ∧ ∀ B, (∀ k ∈ d.weights Try.prog 22, k ≤ B) → h.2.2.length * 8 ≤ B
set_option maxRecDepth 100000 in
theorem open_holes {n : Nat} {c : Value} {y : DataW H × List MemPlace} (h : DataW.trod enc Try.prog W 0 (fun _ => true) true n 51 [c] = some y) (hB : ∀ k ∈ y.1.weights Try.prog 51, k ≤ reachBytes) :
    ∃ (ho : Option Addr) (hc : Nat) (Hs : List Hole), c = .slice ho Hs.length hc ∧ Hls W ho Hs ∧ OkH Hs ∧ (∀ i, (hAt Hs i).1 = none → (hAt Hs i).2.2.length = 0 ∧ (hAt Hs i).2.1 = 0) ∧ Hs.length ≤ 5864062014634 := by
  rcases Go.Deep.open_slice Try.underlying51 h with ⟨hcs, hx⟩ | ⟨a, len, cap, m, n', D, Pl, hcs, _, hl, hm, hmm, hx, hall⟩
  · simp only [List.cons.injEq, and_true] at hcs
    subst hcs
    exact ⟨none, 0, [], rfl, fun i hi => by simp at hi, fun i => ⟨fun p hp => by simp [hAt] at hp, by simp [hAt]⟩, fun i _ => by simp [hAt], by simp⟩
  · simp only [List.cons.injEq, and_true] at hcs
    subst hcs
    have hm' : len ≤ m := by rw [hmm]; split <;> omega
    rw [hx] at hB
    simp only [DataW.weights, Try.underlying51, bytes22, List.mem_cons, List.mem_append, List.length_map, List.length_range] at hB
    have hlen : len ≤ 5864062014634 := by
      have := hB ((len + (m - len)) * 24) (.inl rfl)
      simp only [reachBytes] at this
      omega
    have hD : ∀ i, i < len → ∀ k ∈ (D i).weights Try.prog 22, k ≤ reachBytes := fun i hi k hk => hB k (.inr (.inl (weightsAll_mem (List.mem_map.2 ⟨i, List.mem_range.2 hi, rfl⟩) k hk)))
    have hone : ∀ i, ∃ x : Hole, i < len → W.cell? (a.add i) = some (.slice x.1 x.2.2.length x.2.1) ∧ HoleOk W x (D i) := fun i => by
      by_cases hi : i < len
      · obtain ⟨cs', h1, h2⟩ := hall i (by omega)
        rw [Try.cells22] at h1
        obtain ⟨_, hlen', hcell⟩ := World.cells?_some h1
        match cs', hlen' with
        | [c], _ =>
          obtain ⟨a0, cap0, l0, rfl, p1, p2, p3, p4⟩ := open_pts h2
          have := hcell 0 (by omega)
          exact ⟨(a0, cap0, l0), fun _ => ⟨by simpa [Addr.add] using this, p1, p2, p3, p4⟩⟩
      · exact ⟨(none, 0, []), fun h => absurd h hi⟩
    obtain ⟨f, hf⟩ : ∃ f : Nat → Hole, ∀ i, i < len → W.cell? (a.add i) = some (.slice (f i).1 (f i).2.2.length (f i).2.1) ∧ HoleOk W (f i) (D i) := ⟨fun i => Classical.choose (hone i), fun i => Classical.choose_spec (hone i)⟩
    have hAtf : ∀ i, i < len → hAt ((List.range len).map f) i = f i := fun i hi => by simp [hAt, List.getD, hi]
    have hAtn : ∀ i, ¬ i < len → hAt ((List.range len).map f) i = (none, 0, []) := fun i hi => by unfold hAt; rw [List.getD_eq_getElem?_getD, List.getElem?_eq_none (by simpa using hi)]; rfl
    refine ⟨some a, cap, (List.range len).map f, by simp, fun i hi => ?_, fun i => ?_, fun i => ?_, by simpa using hlen⟩
    · have hi' : i < len := by simpa using hi
      obtain ⟨c0, p1, _⟩ := hf i hi'
      rw [hAtf i hi']
      obtain ⟨b, off, spot⟩ := a
      have hspot : spot = none := by simpa [Addr.add] using World.cell?_spot (hf 0 (by omega)).1
      subst hspot
      rw [addr_add] at c0
      exact ⟨b, off, rfl, c0, p1⟩
    · by_cases hi : i < len
      · rw [hAtf i hi]
        obtain ⟨_, _, p2, _, p4⟩ := hf i hi
        refine ⟨p2, ?_⟩
        have := p4 reachBytes (hD i hi)
        simp only [reachBytes] at this
        omega
      · rw [hAtn i hi]; exact ⟨fun p hp => by simp at hp, by simp⟩
    · by_cases hi : i < len
      · rw [hAtf i hi]; exact (hf i hi).2.2.2.1
      · rw [hAtn i hi]; exact fun _ => ⟨rfl, rfl⟩
end
end Go.Proofs.Ytpdhknclhpifkaa
