/- PointLists, proved: for every list of points the law returns true: the program's Sorted holds the points in the reference's order, in memory of its own; the box around them is the reference's; what was handed in is as it was, the room behind it too; the argument reads afterwards as it read before. No conditions. -/
import Derived.Test.YtclhkcpccocajaaListsW
import Derived.Test.YtclhkcpccocajaaFrame
import Derived.SizedLaws
import Derived.Deep.SlicePairs
import Derived.Carry
namespace Go.Proofs.Ytclhkcpccocajaa
open Go.ChangeShapes Go.WideShapes Go.ChangeAt Go.RowKit Go.Joins

theorem laidOut : laidOutB Try.prog = true := by kernel_rfl
theorem bytes23 : Try.prog.bytesOf 23 = 8 := by kernel_rfl

set_option maxRecDepth 100000 in
theorem lists_contract (H : Type) (enc : TypeId × Value → H) (W : World) (base : Nat) (args : Array Value) (ds gs : List (DataW H)) (before : List MemPlace)
    (hval : ∀ (j : Nat) t v, Try.f5.params[j]? = some t → args[j]? = some v → Value.okWide Try.prog W .any base t v)
    (hW : DataW.Whole enc Try.prog Try.f5.params.toList Rows.pointListsSpec.vars false W args.toList ds gs before) (hsz0 : (DataW.weightsEach Try.prog (Try.f5.params.toList ++ Rows.pointListsSpec.plain.varTypes Try.prog) (ds ++ gs)).all (· ≤ reachBytes) = true) :
    Calls Try.prog 5 args W fun e W' => ∃ v, e = .returned v ∧ Rows.pointListsSpec.post enc Try.prog Try.f5 false true false false W args v W' := by
  have hsz := hsz0
  clear hsz0
  have hW' := hW
  obtain ⟨p, q, hA0, hV, rfl, _, _⟩ := hW
  have hA : DataW.TrodAll enc Try.prog W 0 (fun _ => true) true Try.f5.params.toList args.toList ds p := hA0
  rw [Try.params5] at hA hval hsz
  obtain ⟨v0, d0, rfl, rfl, h0⟩ := trodAll_one hA
  obtain ⟨rfl, rfl⟩ := trodVars_none hV
  obtain ⟨a0, len, cap, rfl⟩ := okWide_slice Try.underlying41 (hval 0 41 v0 rfl rfl)
  have h0k := h0
  obtain ⟨fuel, hf⟩ := h0
  clear hA0
  simp only [List.append_nil] at hW'
  have hlt : ∀ x ∈ p, x.block < W.heap.size := fun x hx => by simpa using hW'.lt x hx
  have hargs : ∀ (W' : World), Below W.heap.size W W' → DataW.Trod enc Try.prog W' 0 (fun b => decide (b < W.heap.size)) true 41 (.slice a0 len cap) d0 p :=
    fun W' hn => Below.trod laidOut (by kernel_rfl) (of_decide_eq_true (by kernel_rfl)) h0k hn hlt
  have key : ∃ l : List (Int × Int), l.length = len ∧ len ≤ 17592186043904 ∧ Pts W a0 l ∧ (a0 = none → len = 0 ∧ cap = 0) := by
    rcases Go.Deep.open_slice_pairs Try.underlying41 Try.underlying23 Try.cells23 rfl rfl Try.cells21 Try.cells21 hf with ⟨hcs, hx⟩ | ⟨a, len', cap', m, n, V0, V1, D0, D1, P0, P1, hcs, _, hl, hm, hmm, hx, hc⟩
    · simp [Value.cells] at hcs
      obtain ⟨rfl, rfl, rfl⟩ := hcs
      exact ⟨[], rfl, by omega, fun i hi => by simp at hi, fun _ => ⟨rfl, rfl⟩⟩
    · simp [Value.cells] at hcs
      obtain ⟨rfl, rfl, rfl⟩ := hcs
      simp only [Prod.mk.injEq] at hx
      obtain ⟨rfl, rfl⟩ := hx
      have hle : len ≤ 17592186043904 := by
        have := sized_slice hsz (j := 0) (t := 41) (e := 23) rfl rfl Try.underlying41
        rw [bytes23] at this
        simp only [List.length_map, List.length_range, reachBytes] at this
        omega
      have hm' : len ≤ m := by rw [hmm]; split <;> omega
      have hv : ∀ i, i < len → W.cell? (a.add (i * 2)) = some (.int .i32 (intOf (V0 i))) ∧ W.cell? (a.add (i * 2 + 1)) = some (.int .i32 (intOf (V1 i))) := fun i hi => by
        obtain ⟨c0, c1, t0, t1⟩ := hc i (by omega)
        obtain ⟨x, e0, _, _⟩ := DataW.trod_int Try.underlying21 t0
        obtain ⟨y, e1, _, _⟩ := DataW.trod_int Try.underlying21 t1
        simp only [List.cons.injEq, and_true] at e0 e1
        rw [c0, c1, e0, e1]
        exact ⟨rfl, rfl⟩
      by_cases h00 : len = 0
      · subst h00
        exact ⟨[], rfl, hle, fun i hi => absurd hi (by simp), fun h => absurd h (by simp)⟩
      · obtain ⟨b, off, spot⟩ := a
        have hspot : spot = none := by simpa [Addr.add] using World.cell?_spot (hv 0 (by omega)).1
        subst hspot
        refine ⟨(List.range len).map fun i => (intOf (V0 i), intOf (V1 i)), by simp, hle, fun i hi => ?_, fun h => absurd h (by simp)⟩
        have hi' : i < len := by simpa using hi
        obtain ⟨c0, c1⟩ := hv i hi'
        have e : ∀ k, (⟨b, off, none⟩ : Addr).add k = ⟨b, off + k, none⟩ := fun k => by unfold Addr.add; split <;> simp_all
        rw [e] at c0 c1
        refine ⟨b, off, rfl, ?_, ?_⟩
        · rw [c0]; simp [List.getD, hi']
        · rw [Nat.add_assoc, c1]; simp [List.getD, hi']
  obtain ⟨l, rfl, hlen, hP, hn⟩ := key
  refine (lists_walk a0 cap l W hlen hn hP).mono fun e W' ⟨he, hb⟩ => ?_
  subst he
  exact ⟨_, rfl, _, _, _, [], _, [], hW', trodAll_mk1 (shut_bool Try.underlying4 _), trodAll_mk1 (hargs _ hb), rfl, hb.frame _, fun h => by cases h⟩

set_option maxRecDepth 100000 in
theorem lists_lifted (os : Os) (started : os.Started) (H : Type) (enc : TypeId × Value → H) :
    ReturnsInHanded {} Try.checked os 5 .any (Rows.pointListsSpec.pre6 enc Try.prog Try.f5 Rows.pointListsRow.domain false) (Rows.pointListsSpec.post enc Try.prog Try.f5 false true false false) := by
  refine returnsInHanded_of_change_sized (C := Try.checked) own started (by kernel_rfl) Try.func5
    (ChangeSpec.witness6 (enc := enc) (C := Try.checked) false ⟨#[], #[.slice none 0 0], []⟩ 8 (by kernel_rfl) (by kernel_rfl) (by kernel_rfl) (by kernel_rfl)) ?_
  intro W base args ds gs before hval hW _ hsz _
  exact lists_contract H enc W base args ds gs before hval hW hsz

theorem lists_holds : Rows.PointListsSaid :=
  OpenClaim.holds_of_wide 5 Try.f5 rfl rfl rfl rfl rfl rfl rfl ⟨rfl, rfl, rfl, rfl, rfl⟩ rfl rfl rfl rfl rfl (by kernel_rfl) Try.func5 (by kernel_rfl)
    (of_decide_eq_true (by kernel_rfl)) (by unfold Func.isWrapper; first | (rw [if_pos (by decide +kernel)]; kernel_rfl) | (rw [if_neg (by decide +kernel)]; exact ⟨rfl, rfl⟩))
    (fun os started H enc _ => lists_lifted os started H enc)
end Go.Proofs.Ytclhkcpccocajaa
