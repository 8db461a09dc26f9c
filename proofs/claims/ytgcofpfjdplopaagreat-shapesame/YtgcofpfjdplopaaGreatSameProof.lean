/- ShapeSame, proved: for every two shapes (the arguments, whatever they hold, right or not) the law returns true: Same tells of twins of the two what the reference's Same tells of them, a shape is Same as its twin, and a twin as the shape it was made of; a disc has its centre, and no point beyond its radius; the arguments read afterwards as they read before. No conditions. -/
import Derived.Test.YtgcofpfjdplopaaGreatSl9
import Derived.Test.YtgcofpfjdplopaaGreatRows
import Derived.ProofKit
import Derived.OpenShut
import Derived.Lib.SmallJoins
import Derived.SizedLaws
import Derived.Deep.SlicePairs
import Derived.Deep.Slices
import Derived.Deep.Strs
import Derived.Carry
namespace Go.Proofs.YtgcofpfjdplopaaGreat
open Go.ChangeShapes Go.WideShapes Go.ChangeAt Go.RowKit Go.Joins

theorem own : ownKnob Tryz.prog.godebug = none := by kernel_rfl
theorem laidOut : laidOutB Tryz.prog = true := by kernel_rfl
theorem bytes28 : Tryz.prog.bytesOf 28 = 8 := by kernel_rfl
theorem bytes23 : Tryz.prog.bytesOf 23 = 24 := by kernel_rfl
theorem Tryz.cells21 : Tryz.prog.cellsOf 21 = 1 := by kernel_rfl
theorem Tryz.cells22 : Tryz.prog.cellsOf 22 = 1 := by kernel_rfl
theorem Tryz.cells23 : Tryz.prog.cellsOf 23 = 1 := by kernel_rfl
theorem Tryz.cells24 : Tryz.prog.cellsOf 24 = 1 := by kernel_rfl
theorem Tryz.cells26 : Tryz.prog.cellsOf 26 = 4 := by kernel_rfl
theorem Tryz.cells28 : Tryz.prog.cellsOf 28 = 2 := by kernel_rfl
theorem weightsAll_mem {H : Type} {P : Program} {e : TypeId} : ∀ {l : List (DataW H)} {d : DataW H}, d ∈ l → ∀ n ∈ d.weights P e, n ∈ DataW.weightsAll P e l
  | d' :: r, d, hd, n, hn => by
    simp only [DataW.weightsAll, List.mem_append]
    rcases List.mem_cons.1 hd with rfl | h
    · exact Or.inl hn
    · exact Or.inr (weightsAll_mem h n hn)
theorem addr_add (b off k : Nat) : (⟨b, off, none⟩ : Addr).add k = ⟨b, off + k, none⟩ := by unfold Addr.add; split <;> simp_all
theorem array4 {α : Type} {cs : Array α} (h : cs.size = 4) : ∃ c0 c1 c2 c3, cs = #[c0, c1, c2, c3] := by
  obtain ⟨l⟩ := cs
  match l, h with
  | [c0, c1, c2, c3], _ => exact ⟨c0, c1, c2, c3, rfl⟩
section
variable {H : Type} {enc : TypeId × Value → H} {W : World}
set_option maxRecDepth 100000 in
theorem open_pts {n : Nat} {c : Value} {y : DataW H × List MemPlace} (h : DataW.trod enc Tryz.prog W 0 (fun _ => true) true n 23 [c] = some y) (hB : ∀ k ∈ y.1.weights Tryz.prog 23, k ≤ reachBytes) :
    ∃ v : Hole, c = hv v ∧ Pts W v.1 v.2.2 ∧ v.2.2.length ≤ 17592186043904 := by
  rcases Go.Deep.open_slice_pairs Tryz.underlying23 Tryz.underlying28 Tryz.cells28 rfl rfl Tryz.cells21 Tryz.cells21 h with ⟨hcs, hx⟩ | ⟨a, len', cap', m, n, V0, V1, D0, D1, P0, P1, hcs, _, hl, hm, hmm, hx, hc⟩
  · simp only [List.cons.injEq, and_true] at hcs
    subst hcs
    exact ⟨(none, 0, []), rfl, fun i hi => by simp at hi, by simp⟩
  · simp only [List.cons.injEq, and_true] at hcs
    subst hcs
    have hm' : len' ≤ m := by rw [hmm]; split <;> omega
    have hv : ∀ i, i < len' → W.cell? (a.add (i * 2)) = some (.int .i32 (intOf (V0 i))) ∧ W.cell? (a.add (i * 2 + 1)) = some (.int .i32 (intOf (V1 i))) := fun i hi => by
      obtain ⟨c0, c1, t0, t1⟩ := hc i (by omega)
      obtain ⟨x, e0, _, wx⟩ := DataW.trod_int Tryz.underlying21 t0
      obtain ⟨y, e1, _, wy⟩ := DataW.trod_int Tryz.underlying21 t1
      simp only [List.cons.injEq, and_true] at e0 e1
      rw [c0, c1, e0, e1]
      exact ⟨rfl, rfl⟩
    have hlen : len' ≤ 17592186043904 := by
      have := hB ((len' + (m - len')) * 8) (by rw [hx]; simp [DataW.weights, Tryz.underlying23, bytes28])
      simp only [reachBytes] at this
      omega
    by_cases h00 : len' = 0
    · subst h00
      exact ⟨(some a, cap', []), rfl, fun i hi => absurd hi (by simp), by simp⟩
    · obtain ⟨b, off, spot⟩ := a
      have hspot : spot = none := by simpa [Addr.add] using World.cell?_spot (hv 0 (by omega)).1
      subst hspot
      refine ⟨(some ⟨b, off, none⟩, cap', (List.range len').map fun i => (intOf (V0 i), intOf (V1 i))), by simp, fun i hi => ?_, by simpa using hlen⟩
      have hi' : i < len' := by simpa using hi
      obtain ⟨c0, c1⟩ := hv i hi'
      rw [addr_add] at c0 c1
      refine ⟨b, off, rfl, ?_, ?_⟩
      · rw [c0]; simp [List.getD, hi']
      · rw [Nat.add_assoc, c1]; simp [List.getD, hi']
set_option maxRecDepth 100000 in
theorem open_holes {n : Nat} {c : Value} {y : DataW H × List MemPlace} (h : DataW.trod enc Tryz.prog W 0 (fun _ => true) true n 24 [c] = some y) (hB : ∀ k ∈ y.1.weights Tryz.prog 24, k ≤ reachBytes) :
    ∃ (ho : Option Addr) (hc : Nat) (Hs : List Hole), c = .slice ho Hs.length hc ∧ Hls W ho Hs ∧ Few Hs ∧ Hs.length ≤ 5864062014634 := by
  rcases Go.Deep.open_slice Tryz.underlying24 h with ⟨hcs, hx⟩ | ⟨a, len, cap, m, n', D, Pl, hcs, _, hl, hm, hmm, hx, hall⟩
  · simp only [List.cons.injEq, and_true] at hcs
    subst hcs
    exact ⟨none, 0, [], rfl, fun i hi => by simp at hi, fun i => by simp [hAt], by simp⟩
  · simp only [List.cons.injEq, and_true] at hcs
    subst hcs
    have hm' : len ≤ m := by rw [hmm]; split <;> omega
    rw [hx] at hB
    simp only [DataW.weights, Tryz.underlying24, bytes23, List.mem_cons, List.mem_append, List.length_map, List.length_range] at hB
    have hlen : len ≤ 5864062014634 := by
      have := hB ((len + (m - len)) * 24) (.inl rfl)
      simp only [reachBytes] at this
      omega
    have hD : ∀ i, i < len → ∀ k ∈ (D i).weights Tryz.prog 23, k ≤ reachBytes := fun i hi k hk => hB k (.inr (.inl (weightsAll_mem (List.mem_map.2 ⟨i, List.mem_range.2 hi, rfl⟩) k hk)))
    have hone : ∀ i, ∃ x : Hole, i < len → W.cell? (a.add i) = some (hv x) ∧ Pts W x.1 x.2.2 ∧ x.2.2.length ≤ 17592186043904 := fun i => by
      by_cases hi : i < len
      · obtain ⟨cs', h1, h2⟩ := hall i (by omega)
        rw [Tryz.cells23] at h1
        obtain ⟨_, hlen', hcell⟩ := World.cells?_some h1
        match cs', hlen' with
        | [c], _ =>
          obtain ⟨v0, rfl, p1, p2⟩ := open_pts h2 (hD i hi)
          have := hcell 0 (by omega)
          exact ⟨v0, fun _ => ⟨by simpa [Addr.add] using this, p1, p2⟩⟩
      · exact ⟨(none, 0, []), fun h => absurd h hi⟩
    obtain ⟨f, hf⟩ : ∃ f : Nat → Hole, ∀ i, i < len → W.cell? (a.add i) = some (hv (f i)) ∧ Pts W (f i).1 (f i).2.2 ∧ (f i).2.2.length ≤ 17592186043904 := ⟨fun i => Classical.choose (hone i), fun i => Classical.choose_spec (hone i)⟩
    have hAtf : ∀ i, i < len → hAt ((List.range len).map f) i = f i := fun i hi => by simp [hAt, List.getD, hi]
    refine ⟨some a, cap, (List.range len).map f, by simp, fun i hi => ?_, fun i => ?_, by simpa using hlen⟩
    · have hi' : i < len := by simpa using hi
      obtain ⟨c0, p1, _⟩ := hf i hi'
      rw [hAtf i hi']
      obtain ⟨b, off, spot⟩ := a
      have hspot : spot = none := by simpa [Addr.add] using World.cell?_spot (hf 0 (by omega)).1
      subst hspot
      rw [addr_add] at c0
      exact ⟨b, off, rfl, c0, p1⟩
    · by_cases hi : i < len
      · rw [hAtf i hi]; exact (hf i hi).2.2
      · rw [hAt_out (by simpa using hi)]; simp
set_option maxRecDepth 100000 in
/-- A shape, read off an argument. -/
theorem open_shape {base : Nat} {x : Value} {d : DataW H} {p : List MemPlace} (hv : Value.okWide Tryz.prog W .any base 26 x) (h : DataW.Trod enc Tryz.prog W 0 (fun _ => true) true 26 x d p) (hB : ∀ k ∈ d.weights Tryz.prog 26, k ≤ reachBytes) :
    ∃ k s v ho hc Hs, x = shV k v ho Hs.length hc s ∧ Sh v ho Hs W := by
  obtain ⟨cs, rfl, hcs⟩ := okWide_struct Tryz.underlying26 hv
  obtain ⟨c0, c1, c2, c3, rfl⟩ := array4 (hcs.trans Tryz.cells26)
  obtain ⟨fuel, hf⟩ := h
  obtain ⟨y0, y1, y2, y3, n, hx, _, t0, t1, t2, t3⟩ := trod_struct4 Tryz.underlying26 hf
  simp only [Value.cells, Tryz.cells21, Tryz.cells22, Tryz.cells23, Tryz.cells24, List.drop_zero, List.take_succ_cons, List.take_zero, List.drop_succ_cons] at t0 t1 t2 t3
  have hd : d = .agg [y0.1, y1.1, y2.1, y3.1] := (Prod.mk.inj hx).1
  rw [hd] at hB
  have hB1 : ∀ k, (k ∈ y1.1.weights Tryz.prog 23 ∨ k ∈ y2.1.weights Tryz.prog 24) → k ≤ reachBytes := fun k hk => hB k (by
    simp only [DataW.weights, Tryz.underlying26, List.map_cons, List.map_nil, DataW.weightsEach, List.mem_append]
    rcases hk with hk | hk
    · simp [hk]
    · simp [hk])
  obtain ⟨k, e0, _, _⟩ := DataW.trod_int Tryz.underlying22 t0
  obtain ⟨v, rfl, hP, hl⟩ := open_pts t1 (fun k hk => hB1 k (.inl hk))
  obtain ⟨ho, hc, Hs, rfl, hQ, hF, hn⟩ := open_holes t2 (fun k hk => hB1 k (.inr hk))
  obtain ⟨s, e3, _, _⟩ := DataW.trod_int Tryz.underlying21 t3
  simp only [List.cons.injEq, and_true] at e0 e3
  subst e0 e3
  exact ⟨k, s, v, ho, hc, Hs, rfl, ⟨hl, hF, hn, hP, hQ⟩⟩
end

set_option maxRecDepth 100000 in
theorem same_contract (H : Type) (enc : TypeId × Value → H) (W : World) (base : Nat) (args : Array Value) (ds gs : List (DataW H)) (before : List MemPlace)
    (hval : ∀ (j : Nat) t v, Tryz.f4.params[j]? = some t → args[j]? = some v → Value.okWide Tryz.prog W .any base t v)
    (hW : DataW.Whole enc Tryz.prog Tryz.f4.params.toList Rows.shapeSameSpec.vars false W args.toList ds gs before) (hsz0 : (DataW.weightsEach Tryz.prog (Tryz.f4.params.toList ++ Rows.shapeSameSpec.plain.varTypes Tryz.prog) (ds ++ gs)).all (· ≤ reachBytes) = true) :
    Calls Tryz.prog 4 args W fun e W' => ∃ v, e = .returned v ∧ Rows.shapeSameSpec.post enc Tryz.prog Tryz.f4 false true false false W args v W' := by
  have hsz := hsz0
  clear hsz0
  have hW' := hW
  obtain ⟨p, q, hA0, hV, rfl, _, _⟩ := hW
  have hA : DataW.TrodAll enc Tryz.prog W 0 (fun _ => true) true Tryz.f4.params.toList args.toList ds p := hA0
  rw [Tryz.params4] at hA hval hsz
  obtain ⟨x0, x1, d0, d1, p0, p1, rfl, rfl, rfl, h0, h1⟩ := trodAll_two hA
  obtain ⟨rfl, rfl⟩ := trodVars_none hV
  clear hA0
  simp only [List.append_nil] at hW'
  have hlt : ∀ x ∈ p0 ++ p1, x.block < W.heap.size := fun x hx => by simpa using hW'.lt x hx
  have a0 : ∀ (W' : World), Below W.heap.size W W' → DataW.Trod enc Tryz.prog W' 0 (fun b => decide (b < W.heap.size)) true 26 x0 d0 p0 :=
    fun W' hn => Below.trod laidOut (by kernel_rfl) (of_decide_eq_true (by kernel_rfl)) h0 hn (fun x hx => hlt x (List.mem_append.2 (.inl hx)))
  have a1 : ∀ (W' : World), Below W.heap.size W W' → DataW.Trod enc Tryz.prog W' 0 (fun b => decide (b < W.heap.size)) true 26 x1 d1 p1 :=
    fun W' hn => Below.trod laidOut (by kernel_rfl) (of_decide_eq_true (by kernel_rfl)) h1 hn (fun x hx => hlt x (List.mem_append.2 (.inr hx)))
  have hB : ∀ k, (k ∈ d0.weights Tryz.prog 26 ∨ k ∈ d1.weights Tryz.prog 26) → k ≤ reachBytes := fun k hk => of_decide_eq_true (List.all_eq_true.1 hsz k (by
    simp only [List.append_nil, List.nil_append, List.cons_append, DataW.weightsEach, List.mem_append]
    rcases hk with hk | hk
    · simp [hk]
    · simp [hk]))
  obtain ⟨k, s, v, ho, hc, Hs, rfl, sA⟩ := open_shape (hval 0 26 x0 rfl rfl) h0 (fun k hk => hB k (.inl hk))
  obtain ⟨k', s', v', ho', hc', Hs', rfl, hB'⟩ := open_shape (hval 1 26 x1 rfl rfl) h1 (fun k hk => hB k (.inr hk))
  refine (same_walk k s k' s' v v' ho ho' hc hc' Hs Hs' W sA hB').mono fun e W' ⟨he, hb⟩ => ?_
  subst he
  exact ⟨_, rfl, _, _, _, [], _, [], hW', trodAll_mk1 (shut_bool Tryz.underlying4 _), trodAll_mk2 (a0 _ hb) (a1 _ hb), rfl, hb.frame _, fun h => by cases h⟩

set_option maxRecDepth 100000 in
theorem same_lifted (os : Os) (started : os.Started) (H : Type) (enc : TypeId × Value → H) :
    ReturnsInHanded {} Tryz.checked os 4 .any (Rows.shapeSameSpec.pre6 enc Tryz.prog Tryz.f4 Rows.shapeSameRow.domain false) (Rows.shapeSameSpec.post enc Tryz.prog Tryz.f4 false true false false) := by
  refine returnsInHanded_of_change_sized (C := Tryz.checked) own started (by kernel_rfl) Tryz.func4
    (ChangeSpec.witness6 (enc := enc) (C := Tryz.checked) false ⟨#[], #[.agg #[.int .u8 0, .slice none 0 0, .slice none 0 0, .int .i32 0], .agg #[.int .u8 0, .slice none 0 0, .slice none 0 0, .int .i32 0]], []⟩ 8 (by kernel_rfl) (by kernel_rfl) (by kernel_rfl) (by kernel_rfl)) ?_
  intro W base args ds gs before hval hW _ hsz _
  exact same_contract H enc W base args ds gs before hval hW hsz

theorem same_holds : Rows.ShapeSameSaid :=
  OpenClaim.holds_of_wide 4 Tryz.f4 rfl rfl rfl rfl rfl rfl rfl ⟨rfl, rfl, rfl, rfl, rfl⟩ rfl rfl rfl rfl rfl (by kernel_rfl) Tryz.func4 (by kernel_rfl)
    (of_decide_eq_true (by kernel_rfl)) (by unfold Func.isWrapper; first | (rw [if_pos (by decide +kernel)]; kernel_rfl) | (rw [if_neg (by decide +kernel)]; exact ⟨rfl, rfl⟩))
    (fun os started H enc _ => same_lifted os started H enc)
end Go.Proofs.YtgcofpfjdplopaaGreat
