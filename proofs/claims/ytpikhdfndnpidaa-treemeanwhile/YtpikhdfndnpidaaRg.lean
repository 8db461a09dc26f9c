/- A region that draws its order, by what holds when some of its operations are done: one proof for each operation, none for each order. -/
import Derived.Test.YtpikhdfndnpidaaHd
import Derived.TacticsInMore
import Derived.OwnWalkIn
namespace Go.Proofs.Ytpikhdfndnpidaa
open Go Go.Sort
section
variable {F : Fence} {n : Nat} {P : Program}

theorem count_set (p q : Nat → Bool) (i : Nat) (hp : p i = true) (hq : q i = false) (hs : ∀ j, j ≠ i → p j = q j) : ∀ m, (i < m → (List.range m).countP p = (List.range m).countP q + 1) ∧ (m ≤ i → (List.range m).countP p = (List.range m).countP q)
  | 0 => ⟨fun h => by omega, fun _ => rfl⟩
  | m + 1 => by
    obtain ⟨h1, h2⟩ := count_set p q i hp hq hs m
    rw [List.range_succ, List.countP_append, List.countP_append]
    refine ⟨fun h => ?_, fun h => ?_⟩
    · by_cases e : i = m
      · subst e
        rw [h2 (Nat.le_refl _)]
        simp [hp, hq]
      · rw [h1 (by omega)]
        have := hs m (fun e' => e e'.symm)
        simp only [List.countP_cons, List.countP_nil, this]
        omega
    · rw [h2 (by omega)]
      have := hs m (by omega)
      simp only [List.countP_cons, List.countP_nil, this]
def depsB (l : List Oper) : Bool := (List.range l.length).all fun i => match l[i]? with
  | some o => o.after.all fun e => !Region.binds .any e || decide (e.on < i)
  | none => true
theorem deps_spec {l : List Oper} (h : depsB l = true) {i : Nat} {o : Oper} (ho : l[i]? = some o) (e : Edge) (he : e ∈ o.after) (hb : Region.binds .any e = true) : e.on < i := by
  unfold depsB at h
  rw [List.all_eq_true] at h
  have := h i (by rw [List.mem_range]; exact (List.getElem?_eq_some_iff.1 ho).1)
  simp only [ho] at this
  rw [Array.all_eq_true_iff_forall_mem] at this
  have h2 := this e he
  rw [hb] at h2
  simpa using h2

theorem opIn_of_list {ops : Array Oper} {i : Nat} {o : Oper} {a : Act} {w : World} {K : Act → World → Prop} {Q : Exit → Act → World → Prop} (ho : ops[i]? = some o) (h : wpListIn F n P ops (Exit.then K Q) [o] a w) : wpOpIn F n P ops Q i K a w := by
  unfold wpListIn at h
  unfold wpOpIn
  simp only [ho]
  split
  · rename_i hw
    simp only [hw, if_true] at h
    refine ⟨h.1, ?_⟩
    have h2 := h.2
    generalize (o.semAt F.round a.eval).run P w = r at *
    cases r with
    | ok x w' => cases x <;> exact h2
    | halt x w' => cases x <;> exact h2
  · rename_i hw; simp only [hw] at h; exact h

def depB (o : Oper) (j : Nat) : Bool := o.after.any fun e => Region.binds .any e && e.on == j
theorem dep_spec {o : Oper} {j : Nat} (h : depB o j = true) {d : Nat → Prop} (k : ∀ e ∈ o.after, Region.binds .any e = true → d e.on) : d j := by
  unfold depB at h
  simp only [Array.any_eq_true, Bool.and_eq_true, beq_iff_eq] at h
  obtain ⟨i, hi, h1, h2⟩ := h
  exact h2 ▸ k _ (Array.getElem_mem hi) h1
theorem or_ne {p : Prop} {a b : Nat} (h : p ∨ a = b) (hn : a ≠ b) : p := h.resolve_right hn

theorem any_inv {l : List Oper} {Q : Exit → Act → World → Prop} (hd : depsB l = true) (Inv : (Nat → Prop) → Act → World → Prop)
    (hstep : ∀ d a w i o, l[i]? = some o → ¬ d i → (∀ j, depB o j = true → d j) → (∀ k o', l[k]? = some o' → d k → ∀ j, depB o' j = true → d j) → Inv d a w → wpListIn F n P l.toArray (Exit.then (Inv (fun j => d j ∨ j = i)) Q) [o] a w)
    (hend : ∀ d a w, (∀ i, i < l.length → d i) → Inv d a w → Q .normal a w) :
    ∀ (fuel : Nat) (listed : Array Bool) (a : Act) (w : World), listed.size = l.length → Down .any l.toArray listed → (List.range l.length).countP (fun j => !listed.getD j false) ≤ fuel → Inv (fun j => listed.getD j false = true) a w → wpAnyIn F n P .any l.toArray Q fuel listed a w := by
  have done : ∀ (listed : Array Bool) (a : Act) (w : World), listed.size = l.length → Region.ready .any l.toArray listed = [] → Inv (fun j => listed.getD j false = true) a w → Q .normal a w := fun listed a w hs hr hI => by
    refine hend _ a w ?_ hI
    intro i
    induction i using Nat.strongRecOn with
    | _ i ih =>
      intro hi
      cases hc : listed.getD i false with
      | true => rfl
      | false =>
        exfalso
        have : i ∈ Region.ready .any l.toArray listed := mem_ready.2 ⟨by simp [hs, hi] at hc ⊢; exact hc, l[i], by simp [hi], fun e he hb => by
          have hlt := deps_spec hd (List.getElem?_eq_getElem hi) e he hb
          exact ih e.on hlt (by omega)⟩
        rw [hr] at this
        cases this
  intro fuel
  induction fuel with
  | zero =>
    intro listed a w hs _ hc hI
    have hr : Region.ready .any l.toArray listed = [] := by
      refine List.eq_nil_iff_forall_not_mem.2 fun i hi => ?_
      obtain ⟨h1, o, ho, _⟩ := mem_ready.1 hi
      have hil : i < l.length := by simpa using (Array.getElem?_eq_some_iff.1 ho).1
      have h2 := un_false h1
      have h3 := List.countP_eq_zero.1 (Nat.le_zero.1 hc) i (List.mem_range.2 hil)
      simp [h2] at h3
    exact ⟨hr, done listed a w hs hr hI⟩
  | succ fuel ih =>
    intro listed a w hs hD hc hI
    refine ⟨fun hr => done listed a w hs hr hI, fun i hi => ?_⟩
    obtain ⟨h1, o, ho, hall⟩ := mem_ready.1 hi
    have hil : i < l.length := by simpa using (Array.getElem?_eq_some_iff.1 ho).1
    have h2 := un_false h1
    have := hstep (fun j => listed.getD j false = true) a w i o (by simpa using ho) (by rw [h2]; simp) (fun j hj => dep_spec (d := fun j => listed.getD j false = true) hj hall)
      (fun k o' hk hdk j hj => dep_spec (d := fun j => listed.getD j false = true) hj (hD k o' (by simpa using hk) (by
        have hkl := (List.getElem?_eq_some_iff.1 hk).1
        simpa [hs, hkl] using hdk))) hI
    have e : (fun j => listed.getD j false = true ∨ j = i) = (fun j => (listed.setIfInBounds i true).getD j false = true) := by
      funext j
      refine propext ⟨?_, fun h => ?_⟩
      · rintro (h | rfl)
        · exact getD_set_true h
        · simp [hs, hil]
      · by_cases hij : j = i
        · exact .inr hij
        · rw [getD_set_ne false (fun e => hij e.symm)] at h; exact .inl h
    rw [e] at this
    have h5 := opIn_of_list (by simpa using ho) this
    unfold wpOpIn at h5 ⊢
    have ih' := fun a' w' => ih (listed.setIfInBounds i true) a' w' (by simpa using hs) (hD.set hi) (by
      have := (count_set (fun j => !listed.getD j false) (fun j => !(listed.setIfInBounds i true).getD j false) i (by simp only [h2]; rfl) (by simp [hs, hil]) (fun j hj => by rw [getD_set_ne false (fun e => hj e.symm)]) l.length).1 hil
      omega)
    simp only [ho] at h5 ⊢
    split
    · rename_i hw; simp only [hw, if_true] at h5; exact Oper.wpIn_mono ih' h5
    · rename_i hw; simp only [hw] at h5; exact ⟨h5.1, ih' _ _ h5.2⟩

/-- The law. -/
theorem region_inv {id : Nat} {Q : Exit → Act → World → Prop} {a : Act} {w : World} {l : List Oper} (hm : P.follows .mixedOrders = true) (hd : depsB l = true) (Inv : (Nat → Prop) → Act → World → Prop) (h0 : Inv (fun _ => False) a w.drew)
    (hstep : ∀ d a w i o, l[i]? = some o → ¬ d i → (∀ j, depB o j = true → d j) → (∀ k o', l[k]? = some o' → d k → ∀ j, depB o' j = true → d j) → Inv d a w → wpListIn F n P l.toArray (Exit.then (Inv (fun j => d j ∨ j = i)) Q) [o] a w)
    (hend : ∀ d a w, (∀ i, i < l.length → d i) → Inv d a w → Q .normal a w) : (Code.region id l.toArray true).wpIn F n P Q a w := by
  refine wpIn_region_any hm (any_inv hd Inv hstep hend _ _ _ _ (by simp) (fun j oj hj hl => by simp at hj; obtain ⟨hj, _⟩ := List.getElem?_eq_some_iff.1 hj; simp [hj] at hl) (by simpa using List.countP_le_length (p := fun j => !(Array.replicate l.toArray.size false).getD j false) (l := List.range l.length)) ?_)
  have e : (fun j => (Array.replicate l.toArray.size false).getD j false = true) = (fun _ => False) := by
    funext j
    refine propext ⟨fun h => ?_, fun h => h.elim⟩
    by_cases hj : j < l.length <;> simp [hj] at h
  rw [e]
  exact h0
end
end Go.Proofs.Ytpikhdfndnpidaa
