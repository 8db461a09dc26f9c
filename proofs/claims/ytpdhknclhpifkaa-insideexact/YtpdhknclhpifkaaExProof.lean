/- InsideExact, proved: for every ring, holes and point (the argument, whatever it holds) the law returns true: Edge, Crossings, Covers, Winding and With answer as the document's reference does, what was handed in is as it was, the room behind it too; the argument reads afterwards as it read before. No conditions. -/
import Derived.Test.YtpdhknclhpifkaaExW
import Derived.Test.YtpdhknclhpifkaaFr7
namespace Go.Proofs.Ytpdhknclhpifkaa
open Go.ChangeShapes Go.WideShapes Go.ChangeAt Go.RowKit Go.Joins

theorem Try.cells51 : Try.prog.cellsOf 51 = 1 := by kernel_rfl
theorem Try.cells53 : Try.prog.cellsOf 53 = 4 := by kernel_rfl

set_option maxRecDepth 100000 in
theorem exact_contract (H : Type) (enc : TypeId × Value → H) (W : World) (base : Nat) (args : Array Value) (ds gs : List (DataW H)) (before : List MemPlace)
    (hval : ∀ (j : Nat) t v, Try.f7.params[j]? = some t → args[j]? = some v → Value.okWide Try.prog W .any base t v)
    (hW : DataW.Whole enc Try.prog Try.f7.params.toList Rows.insideExactSpec.vars false W args.toList ds gs before) (hsz0 : (DataW.weightsEach Try.prog (Try.f7.params.toList ++ Rows.insideExactSpec.plain.varTypes Try.prog) (ds ++ gs)).all (· ≤ reachBytes) = true) :
    Calls Try.prog 7 args W fun e W' => ∃ v, e = .returned v ∧ Rows.insideExactSpec.post enc Try.prog Try.f7 false true false false W args v W' := by
  have hsz := hsz0
  clear hsz0
  have hW' := hW
  obtain ⟨p, q, hA0, hV, rfl, _, _⟩ := hW
  have hA : DataW.TrodAll enc Try.prog W 0 (fun _ => true) true Try.f7.params.toList args.toList ds p := hA0
  rw [Try.params7] at hA hval hsz
  obtain ⟨v0, d0, rfl, rfl, h0⟩ := trodAll_one hA
  obtain ⟨rfl, rfl⟩ := trodVars_none hV
  obtain ⟨cs, rfl, hcs⟩ := okWide_struct Try.underlying53 (hval 0 53 v0 rfl rfl)
  obtain ⟨c0, c1, c2, c3, rfl⟩ := array4 (hcs.trans Try.cells53)
  have h0k := h0
  obtain ⟨fuel, hf⟩ := h0
  clear hA0
  simp only [List.append_nil] at hW'
  have hlt : ∀ x ∈ p, x.block < W.heap.size := fun x hx => by simpa using hW'.lt x hx
  have hargs : ∀ (W' : World), Below W.heap.size W W' → DataW.Trod enc Try.prog W' 0 (fun b => decide (b < W.heap.size)) true 53 (.agg #[c0, c1, c2, c3]) d0 p :=
    fun W' hn => Below.trod laidOut (by kernel_rfl) (of_decide_eq_true (by kernel_rfl)) h0k hn hlt
  obtain ⟨y0, y1, y2, n, hx, _, t0, t1, t2⟩ := Go.Deep.trod_struct3 Try.underlying53 hf
  simp only [Value.cells, Try.cells22, Try.cells51, Try.cells31, List.drop_zero, List.take_succ_cons, List.take_zero, List.drop_succ_cons] at t0 t1 t2
  have hd : d0 = .agg [y0.1, y1.1, y2.1] := (Prod.mk.inj hx).1
  rw [hd] at hsz
  have hB : ∀ k, (k ∈ y0.1.weights Try.prog 22 ∨ k ∈ y1.1.weights Try.prog 51) → k ≤ reachBytes := fun k hk => of_decide_eq_true (List.all_eq_true.1 hsz k (by
    simp only [List.append_nil, List.nil_append, List.cons_append, DataW.weightsEach, DataW.weights, Try.underlying53, List.map_cons, List.map_nil, List.mem_append]
    rcases hk with hk | hk
    · simp [hk]
    · simp [hk]))
  obtain ⟨ro, rc, L, rfl, hP, hL, hn, hLB⟩ := open_pts t0
  obtain ⟨ho, hc, Hs, rfl, hQ, hH, hHn, hHl⟩ := open_holes t1 (fun k hk => hB k (.inr hk))
  obtain ⟨px, py, e2, _, wx, wy⟩ := trod_pt t2
  simp only [List.cons.injEq, and_true] at e2
  obtain ⟨rfl, rfl⟩ := e2
  have hlen : L.length ≤ 17592186043904 := by
    have := hLB reachBytes (fun k hk => hB k (.inl hk))
    simp only [reachBytes] at this
    omega
  refine (exact_walk ro rc L hL hlen hn ho hc Hs hH hHl hHn (px, py) ⟨wf_i32 wx, wf_i32 wy⟩ W hP hQ).mono fun e W' ⟨he, hb⟩ => ?_
  subst he
  exact ⟨_, rfl, _, _, _, [], _, [], hW', trodAll_mk1 (shut_bool Try.underlying4 _), trodAll_mk1 (hargs _ hb), rfl, hb.frame _, fun h => by cases h⟩

set_option maxRecDepth 100000 in
theorem exact_lifted (os : Os) (started : os.Started) (H : Type) (enc : TypeId × Value → H) :
    ReturnsInHanded {} Try.checked os 7 .any (Rows.insideExactSpec.pre6 enc Try.prog Try.f7 Rows.insideExactRow.domain false) (Rows.insideExactSpec.post enc Try.prog Try.f7 false true false false) := by
  refine returnsInHanded_of_change_sized (C := Try.checked) own started (by kernel_rfl) Try.func7
    (ChangeSpec.witness6 (enc := enc) (C := Try.checked) false ⟨#[], #[.agg #[.slice none 0 0, .slice none 0 0, .int .i32 0, .int .i32 0]], []⟩ 8 (by kernel_rfl) (by kernel_rfl) (by kernel_rfl) (by kernel_rfl)) ?_
  intro W base args ds gs before hval hW _ hsz _
  exact exact_contract H enc W base args ds gs before hval hW hsz

theorem exact_holds : Rows.InsideExactSaid :=
  OpenClaim.holds_of_wide 7 Try.f7 rfl rfl rfl rfl rfl rfl rfl ⟨rfl, rfl, rfl, rfl, rfl⟩ rfl rfl rfl rfl rfl (by kernel_rfl) Try.func7 (by kernel_rfl)
    (of_decide_eq_true (by kernel_rfl)) (by unfold Func.isWrapper; first | (rw [if_pos (by decide +kernel)]; kernel_rfl) | (rw [if_neg (by decide +kernel)]; exact ⟨rfl, rfl⟩))
    (fun os started H enc _ => exact_lifted os started H enc)
end Go.Proofs.Ytpdhknclhpifkaa
