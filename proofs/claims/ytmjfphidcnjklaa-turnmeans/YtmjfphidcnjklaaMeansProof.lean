/- TurnMeans, proved: for every list of words (the bits of headings, two by two) the law returns true: the heading in the middle that the program finds is the reference's part by part (equal, or no numbers both); the list stays as it was; of headings that all are 1 the one in the middle is 1; a point is turned by a quarter, and back; the argument reads afterwards as it read before. No conditions. -/
import Derived.Test.YtmjfphidcnjklaaMn4
import Derived.Test.YtmjfphidcnjklaaFrame
import Derived.SizedLaws
import Derived.Deep.Slices
import Derived.Carry
namespace Go.Proofs.Ytmjfphidcnjklaa
open Go.ChangeShapes Go.WideShapes Go.ChangeAt Go.RowKit Go.Joins

theorem laidOut : laidOutB Try.prog = true := by kernel_rfl
theorem bytes22 : Try.prog.bytesOf 22 = 8 := by kernel_rfl
theorem Try.cells22' : Try.prog.cellsOf 22 = 1 := by kernel_rfl
section
variable {H : Type} {enc : TypeId × Value → H} {W : World}
set_option maxRecDepth 100000 in
theorem open_us {n : Nat} {c : Value} {y : DataW H × List MemPlace} (h : DataW.trod enc Try.prog W 0 (fun _ => true) true n 68 [c] = some y) (hB : ∀ k ∈ y.1.weights Try.prog 68, k ≤ reachBytes) :
    ∃ (so : Option Addr) (cap : Nat) (z : List Nat), c = .slice so z.length cap ∧ Us W so z ∧ (∀ i, z.getD i 0 < 18446744073709551616) ∧ z.length ≤ 17592186043904 := by
  rcases Go.Deep.open_slice Try.underlying68 h with ⟨hcs, hx⟩ | ⟨a, len, cap, m, n', D, Pl, hcs, _, hl, hm, hmm, hx, hall⟩
  · simp only [List.cons.injEq, and_true] at hcs
    subst hcs
    exact ⟨none, 0, [], rfl, fun i hi => by simp at hi, fun i => by simp, by simp⟩
  · simp only [List.cons.injEq, and_true] at hcs
    subst hcs
    have hm' : len ≤ m := by rw [hmm]; split <;> omega
    rw [hx] at hB
    simp only [DataW.weights, Try.underlying68, bytes22, List.mem_cons, List.mem_append, List.length_map, List.length_range] at hB
    have hlen : len ≤ 17592186043904 := by
      have := hB ((len + (m - len)) * 8) (.inl rfl)
      simp only [reachBytes] at this
      omega
    have hone : ∀ i, ∃ x : Nat, x < 18446744073709551616 ∧ (i < len → W.cell? (a.add i) = some (.int .u64 (x : Int))) := fun i => by
      by_cases hi : i < len
      · obtain ⟨cs', h1, h2⟩ := hall i (by omega)
        rw [Try.cells22'] at h1
        obtain ⟨_, hlen', hcell⟩ := World.cells?_some h1
        match cs', hlen' with
        | [c], _ =>
          obtain ⟨v, e0, _, wv⟩ := DataW.trod_int Try.underlying22 h2
          simp only [List.cons.injEq, and_true] at e0
          subst e0
          obtain ⟨l0, l1⟩ := wf_u64 wv
          have := hcell 0 (by omega)
          refine ⟨v.toNat, by omega, fun _ => ?_⟩
          rw [Int.toNat_of_nonneg l0]
          simpa [Addr.add] using this
      · exact ⟨0, by decide, fun h => absurd h hi⟩
    obtain ⟨f, hf⟩ : ∃ f : Nat → Nat, ∀ i, f i < 18446744073709551616 ∧ (i < len → W.cell? (a.add i) = some (.int .u64 (f i : Int))) := ⟨fun i => Classical.choose (hone i), fun i => Classical.choose_spec (hone i)⟩
    refine ⟨some a, cap, (List.range len).map f, by simp, fun i hi => ?_, fun i => ?_, by simpa using hlen⟩
    · have hi' : i < len := by simpa using hi
      have c0 := (hf i).2 hi'
      obtain ⟨b, off, spot⟩ := a
      have hspot : spot = none := by simpa [Addr.add] using World.cell?_spot ((hf 0).2 (by omega))
      subst hspot
      have ea : (⟨b, off, none⟩ : Addr).add i = ⟨b, off + i, none⟩ := by unfold Addr.add; split <;> simp_all
      rw [ea] at c0
      refine ⟨b, off, rfl, ?_⟩
      rw [c0]
      simp [List.getD, hi']
    · by_cases hi : i < len
      · have : ((List.range len).map f).getD i 0 = f i := by simp [List.getD, hi]
        rw [this]; exact (hf i).1
      · have : ((List.range len).map f).getD i 0 = 0 := by rw [List.getD_eq_getElem?_getD, List.getElem?_eq_none (by simpa using hi)]; rfl
        rw [this]; decide
end

set_option maxRecDepth 100000 in
theorem means_contract (H : Type) (enc : TypeId × Value → H) (W : World) (base : Nat) (args : Array Value) (ds gs : List (DataW H)) (before : List MemPlace)
    (hval : ∀ (j : Nat) t v, Try.f5.params[j]? = some t → args[j]? = some v → Value.okWide Try.prog W .any base t v)
    (hW : DataW.Whole enc Try.prog Try.f5.params.toList Rows.turnMeansSpec.vars false W args.toList ds gs before) (hsz0 : (DataW.weightsEach Try.prog (Try.f5.params.toList ++ Rows.turnMeansSpec.plain.varTypes Try.prog) (ds ++ gs)).all (· ≤ reachBytes) = true) :
    Calls Try.prog 5 args W fun e W' => ∃ v, e = .returned v ∧ Rows.turnMeansSpec.post enc Try.prog Try.f5 false true false false W args v W' := by
  have hsz := hsz0
  clear hsz0
  have hW' := hW
  obtain ⟨p, q, hA0, hV, rfl, _, _⟩ := hW
  have hA : DataW.TrodAll enc Try.prog W 0 (fun _ => true) true Try.f5.params.toList args.toList ds p := hA0
  rw [Try.params5] at hA hval hsz
  obtain ⟨v0, d0, rfl, rfl, h0⟩ := trodAll_one hA
  obtain ⟨rfl, rfl⟩ := trodVars_none hV
  have h0k := h0
  obtain ⟨fuel, hf⟩ := h0
  clear hA0
  simp only [List.append_nil] at hW'
  have hlt : ∀ x ∈ p, x.block < W.heap.size := fun x hx => by simpa using hW'.lt x hx
  have hargs : ∀ (W' : World), Below W.heap.size W W' → DataW.Trod enc Try.prog W' 0 (fun b => decide (b < W.heap.size)) true 68 v0 d0 p :=
    fun W' hn => Below.trod laidOut (by kernel_rfl) (of_decide_eq_true (by kernel_rfl)) h0k hn hlt
  have hB : ∀ k ∈ d0.weights Try.prog 68, k ≤ reachBytes := fun k hk => of_decide_eq_true (List.all_eq_true.1 hsz k (by
    simp only [List.append_nil, List.nil_append, List.cons_append, DataW.weightsEach, List.mem_append]
    simp [hk]))
  obtain ⟨a0, ln, cp, ev⟩ := okWide_slice Try.underlying68 (hval 0 68 v0 rfl rfl)
  have hc : v0.cells.toList = [v0] := by rw [ev]; rfl
  obtain ⟨so, cap, z, rfl, hU, hz, hl⟩ := open_us (by rw [hc] at hf; exact hf) hB
  refine (means_walk so cap z hz hl W hU).mono fun e W' ⟨he, hb⟩ => ?_
  subst he
  exact ⟨_, rfl, _, _, _, [], _, [], hW', trodAll_mk1 (shut_bool Try.underlying4 _), trodAll_mk1 (hargs _ hb), rfl, hb.frame _, fun h => by cases h⟩

set_option maxRecDepth 100000 in
theorem means_lifted (os : Os) (started : os.Started) (H : Type) (enc : TypeId × Value → H) :
    ReturnsInHanded {} Try.checked os 5 .any (Rows.turnMeansSpec.pre6 enc Try.prog Try.f5 Rows.turnMeansRow.domain false) (Rows.turnMeansSpec.post enc Try.prog Try.f5 false true false false) := by
  refine returnsInHanded_of_change_sized (C := Try.checked) own started (by kernel_rfl) Try.func5
    (ChangeSpec.witness6 (enc := enc) (C := Try.checked) false ⟨#[], #[.slice none 0 0], []⟩ 8 (by kernel_rfl) (by kernel_rfl) (by kernel_rfl) (by kernel_rfl)) ?_
  intro W base args ds gs before hval hW _ hsz _
  exact means_contract H enc W base args ds gs before hval hW hsz

theorem means_holds : Rows.TurnMeansSaid :=
  OpenClaim.holds_of_wide 5 Try.f5 rfl rfl rfl rfl rfl rfl rfl ⟨rfl, rfl, rfl, rfl, rfl⟩ rfl rfl rfl rfl rfl (by kernel_rfl) Try.func5 (by kernel_rfl)
    (of_decide_eq_true (by kernel_rfl)) (by unfold Func.isWrapper; first | (rw [if_pos (by decide +kernel)]; kernel_rfl) | (rw [if_neg (by decide +kernel)]; exact ⟨rfl, rfl⟩))
    (fun os started H enc _ => means_lifted os started H enc)
end Go.Proofs.Ytmjfphidcnjklaa
