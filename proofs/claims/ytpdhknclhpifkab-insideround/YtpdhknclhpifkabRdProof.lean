/- InsideRound, proved: for every ring, point, number and shift (whatever the arguments hold) the law returns true: told from another point on, backwards or shifted within 32 bits, Edge and Covers answer the same, Winding the same or, told backwards, the opposite, Crossings of what is shifted the same; the arguments read afterwards as they read before. No conditions. -/
import Derived.Test.YtpdhknclhpifkabRdW
import Derived.Test.YtpdhknclhpifkabFrR
namespace Go.Proofs.Ytpdhknclhpifkab
open Go.ChangeShapes Go.WideShapes Go.ChangeAt Go.RowKit Go.Joins

theorem Try.cells23 : Try.prog.cellsOf 23 = 1 := by kernel_rfl
theorem Try.cells27 : Try.prog.cellsOf 27 = 4 := by kernel_rfl

set_option maxRecDepth 100000 in
theorem round_contract (H : Type) (enc : TypeId × Value → H) (W : World) (base : Nat) (args : Array Value) (ds gs : List (DataW H)) (before : List MemPlace)
    (hval : ∀ (j : Nat) t v, Try.f3.params[j]? = some t → args[j]? = some v → Value.okWide Try.prog W .any base t v)
    (hW : DataW.Whole enc Try.prog Try.f3.params.toList Rows.insideRoundSpec.vars false W args.toList ds gs before) (hsz0 : (DataW.weightsEach Try.prog (Try.f3.params.toList ++ Rows.insideRoundSpec.plain.varTypes Try.prog) (ds ++ gs)).all (· ≤ reachBytes) = true) :
    Calls Try.prog 3 args W fun e W' => ∃ v, e = .returned v ∧ Rows.insideRoundSpec.post enc Try.prog Try.f3 false true false false W args v W' := by
  have hsz := hsz0
  clear hsz0
  have hW' := hW
  obtain ⟨p, q, hA0, hV, rfl, _, _⟩ := hW
  have hA : DataW.TrodAll enc Try.prog W 0 (fun _ => true) true Try.f3.params.toList args.toList ds p := hA0
  rw [Try.params3] at hA hval hsz
  obtain ⟨v0, v1, v2, d0, d1, d2, p0, p1, p2, rfl, rfl, rfl, h0, h1, h2⟩ := trodAll_three hA
  obtain ⟨rfl, rfl⟩ := trodVars_none hV
  obtain ⟨cs, rfl, hcs⟩ := okWide_struct Try.underlying27 (hval 0 27 v0 rfl rfl)
  obtain ⟨c0, c1, c2, c3, rfl⟩ := array4 (hcs.trans Try.cells27)
  obtain ⟨n, rfl, rfl, rfl, _⟩ := open_int Try.underlying3 (hval 1 3 v1 rfl rfl) h1
  obtain ⟨dx, dy, rfl, rfl, rfl, wdx, wdy⟩ := open_pt (hval 2 25 v2 rfl rfl) h2
  have h0k := h0
  obtain ⟨fuel, hf⟩ := h0
  clear hA0
  simp only [List.append_nil] at hW'
  have hlt : ∀ x ∈ p0, x.block < W.heap.size := fun x hx => by simpa using hW'.lt x (by simp [hx])
  have hargs : ∀ (W' : World), Below W.heap.size W W' → DataW.Trod enc Try.prog W' 0 (fun b => decide (b < W.heap.size)) true 27 (.agg #[c0, c1, c2, c3]) d0 p0 :=
    fun W' hn => Below.trod laidOut (by kernel_rfl) (of_decide_eq_true (by kernel_rfl)) h0k hn hlt
  have hargs1 : ∀ (W' : World), Below W.heap.size W W' → DataW.Trod enc Try.prog W' 0 (fun b => decide (b < W.heap.size)) true 3 (.int .i64 n) (.lit (.int .i64 n)) [] :=
    fun W' hn => Below.trod laidOut (by kernel_rfl) (of_decide_eq_true (by kernel_rfl)) h1 hn (fun x hx => by simp at hx)
  obtain ⟨y0, y1, y2, n', hx, _, t0, t1, t2⟩ := Go.Deep.trod_struct3 Try.underlying27 hf
  simp only [Value.cells, Try.cells22, Try.cells23, Try.cells25, List.drop_zero, List.take_succ_cons, List.take_zero, List.drop_succ_cons] at t0 t1 t2
  have hd : d0 = .agg [y0.1, y1.1, y2.1] := (Prod.mk.inj hx).1
  rw [hd] at hsz
  have hB : ∀ k, k ∈ y0.1.weights Try.prog 22 → k ≤ reachBytes := fun k hk => of_decide_eq_true (List.all_eq_true.1 hsz k (by
    simp only [List.append_nil, List.nil_append, List.cons_append, DataW.weightsEach, DataW.weights, Try.underlying27, List.map_cons, List.map_nil, List.mem_append]
    simp [hk]))
  obtain ⟨ro, rc, L, rfl, hP, hL, _, hLB⟩ := open_pts t0
  obtain ⟨px, py, e2, _, wx, wy⟩ := trod_pt t2
  simp only [List.cons.injEq, and_true] at e2
  obtain ⟨rfl, rfl⟩ := e2
  have hlen : L.length ≤ 17592186043904 := by
    have := hLB reachBytes hB
    simp only [reachBytes] at this
    omega
  refine (round_walk ro rc L hL hlen c1 (px, py) ⟨wf_i32 wx, wf_i32 wy⟩ n (dx, dy) ⟨wf_i32 wdx, wf_i32 wdy⟩ W hP).mono fun e W' ⟨he, hb⟩ => ?_
  subst he
  exact ⟨_, rfl, _, _, _, [], _, [], hW', trodAll_mk1 (shut_bool Try.underlying4 _), trodAll_mk3 (hargs _ hb) (hargs1 _ hb) (shut_pt dx dy wdx wdy), rfl, hb.frame _, fun h => by cases h⟩

set_option maxRecDepth 100000 in
theorem round_lifted (os : Os) (started : os.Started) (H : Type) (enc : TypeId × Value → H) :
    ReturnsInHanded {} Try.checked os 3 .any (Rows.insideRoundSpec.pre6 enc Try.prog Try.f3 Rows.insideRoundRow.domain false) (Rows.insideRoundSpec.post enc Try.prog Try.f3 false true false false) := by
  refine returnsInHanded_of_change_sized (C := Try.checked) own started (by kernel_rfl) Try.func3
    (ChangeSpec.witness6 (enc := enc) (C := Try.checked) false ⟨#[], #[.agg #[.slice none 0 0, .slice none 0 0, .int .i32 0, .int .i32 0], .int .i64 0, .agg #[.int .i32 0, .int .i32 0]], []⟩ 8 (by kernel_rfl) (by kernel_rfl) (by kernel_rfl) (by kernel_rfl)) ?_
  intro W base args ds gs before hval hW _ hsz _
  exact round_contract H enc W base args ds gs before hval hW hsz

theorem round_holds : Rows.InsideRoundSaid :=
  OpenClaim.holds_of_wide 3 Try.f3 rfl rfl rfl rfl rfl rfl rfl ⟨rfl, rfl, rfl, rfl, rfl⟩ rfl rfl rfl rfl rfl (by kernel_rfl) Try.func3 (by kernel_rfl)
    (of_decide_eq_true (by kernel_rfl)) (by unfold Func.isWrapper; first | (rw [if_pos (by decide +kernel)]; kernel_rfl) | (rw [if_neg (by decide +kernel)]; exact ⟨rfl, rfl⟩))
    (fun os started H enc _ => round_lifted os started H enc)
end Go.Proofs.Ytpdhknclhpifkab
