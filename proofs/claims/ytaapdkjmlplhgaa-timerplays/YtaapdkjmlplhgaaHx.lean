/- A region that draws its order, with one call that is alone when it comes up: what leads up to it only reads, and so does what waits for it: one walk of the first, the call, one walk of the rest. -/
import Derived.Test.YtaapdkjmlplhgaaHd
import Derived.BigQuiet
namespace Go.Proofs.Ytaapdkjmlplhgaa
open Go Go.Sort
section
variable {P : Program} {ops : Array Oper} {md : Region.Mode} {C : World → Prop} {m : Nat}

/-- Each of the first m leads up to operation m. -/
def leadA (md : Region.Mode) (ops : Array Oper) (m : Nat) : Bool := (List.range m).all fun i => (List.range (m + 1)).any fun d => decide (i < d) && edgeB md ops d i
/-- Each later one waits for m, or for a later one ahead of it. -/
def waitA (md : Region.Mode) (ops : Array Oper) (m : Nat) : Bool := (List.range ops.size).all fun j => decide (j ≤ m) || (List.range j).any fun d => decide (m ≤ d) && edgeB md ops j d
theorem leadA_un (hB : leadA md ops m = true) {listed : Array Bool} (hD : Down md ops listed) : ∀ (k i : Nat), m - i = k → i < m → listed.getD i true = false → listed.getD m true = false ∧ m ∉ Region.ready md ops listed := by
  intro k
  induction k using Nat.strongRecOn with
  | _ k ih =>
    intro i hk hi hu
    simp only [leadA, Bool.and_eq_true, List.all_eq_true, List.mem_range, List.any_eq_true, decide_eq_true_eq] at hB
    obtain ⟨d, hd, hid, he⟩ := hB i hi
    obtain ⟨o, ho, e, hee, hb, hon⟩ := edge_spec he
    have hf := un_false hu
    have hdu : listed.getD d true = false := by
      cases hc : listed.getD d true with
      | false => rfl
      | true =>
        have := hD d o ho hc e hee hb
        rw [hon, hf] at this
        cases this
    by_cases hdm : d = m
    · subst hdm
      refine ⟨hdu, fun hr => ?_⟩
      obtain ⟨_, o', ho', hall⟩ := mem_ready.1 hr
      rw [ho] at ho'
      cases ho'
      have := hall e hee hb
      rw [hon, hf] at this
      cases this
    · exact ih (m - d) (by omega) d rfl (by omega) hdu
theorem waitA_un (hW : waitA md ops m = true) {listed : Array Bool} (hD : Down md ops listed) (hm : listed.getD m false = false) : ∀ (j : Nat) (o : Oper), m < j → ops[j]? = some o → ¬ (∀ e ∈ o.after, Region.binds md e = true → listed.getD e.on false = true) := by
  intro j
  induction j using Nat.strongRecOn with
  | _ j ih =>
    intro o hj ho hall
    simp only [waitA, List.all_eq_true, List.mem_range, Bool.or_eq_true, decide_eq_true_eq, List.any_eq_true, Bool.and_eq_true] at hW
    rcases hW j (Array.getElem?_eq_some_iff.1 ho).1 with h | ⟨d, hd, hmd, he⟩
    · omega
    · obtain ⟨o', ho', e, hee, hb, hon⟩ := edge_spec he
      rw [ho] at ho'
      cases ho'
      have h1 := hall e hee hb
      rw [hon] at h1
      by_cases hdm : d = m
      · subst hdm
        rw [hm] at h1
        cases h1
      · have hds : d < ops.size := by have := (Array.getElem?_eq_some_iff.1 ho).1; omega
        have hod : ops[d]? = some ops[d] := Array.getElem?_eq_getElem hds
        have h2 : listed.getD d true = true := by
          cases hc : listed.getD d true with
          | true => rfl
          | false => rw [un_false hc] at h1; cases h1
        exact ih d hd _ (by omega) hod (hD d _ hod h2)
theorem leadA_lt (hB : leadA md ops m = true) (hW : waitA md ops m = true) {listed : Array Bool} (hD : Down md ops listed) {i : Nat} (hi : i < m) (hu : listed.getD i true = false) {j : Nat} (hj : j ∈ Region.ready md ops listed) : j < m := by
  obtain ⟨h1, h2⟩ := leadA_un hB hD _ i rfl hi hu
  rcases Nat.lt_trichotomy j m with h | h | h
  · exact h
  · subst h; exact absurd hj h2
  · obtain ⟨_, o, ho, hall⟩ := mem_ready.1 hj
    exact absurd hall (waitA_un hW hD (un_false h1) j o h ho)
/-- Whatever order is picked: the first m are quiet; then the others. -/
def AnyP (P : Program) (md : Region.Mode) (ops : Array Oper) (C : World → Prop) (m : Nat) (Q : Exit → Act → World → Prop) : Nat → Array Bool → Act → Prop
  | 0, listed, a => Region.ready md ops listed = [] ∧ ∀ w, C w → Q .normal a w
  | fuel + 1, listed, a =>
    (Region.ready md ops listed = [] → ∀ w, C w → Q .normal a w) ∧
    ∀ i ∈ Region.ready md ops listed, (i < m → qOp P ops C i (AnyP P md ops C m Q fuel (listed.setIfInBounds i true)) a) ∧
      (m ≤ i → ∀ w, C w → wpOp P ops Q i (wpAny P md ops Q fuel (listed.setIfInBounds i true)) a w)
theorem wpAny_of_AnyP {Q : Exit → Act → World → Prop} : ∀ (fuel : Nat) (listed : Array Bool) (a : Act) (w : World), C w →
    AnyP P md ops C m Q fuel listed a → wpAny P md ops Q fuel listed a w
  | 0, _, _, _, hw, h => ⟨h.1, h.2 _ hw⟩
  | fuel + 1, _, _, _, hw, h => ⟨fun h0 => h.1 h0 _ hw, fun i hi => by
      rcases Nat.lt_or_ge i m with hm | hm
      · exact wpOp_of_qOp hw (fun a' w' hw' => wpAny_of_AnyP fuel _ a' w' hw') ((h.2 i hi).1 hm)
      · exact (h.2 i hi).2 hm _ hw⟩
theorem AnyP_first {Q : Exit → Act → World → Prop} {i : Nat} {oi : Oper} {v : Value} (hlead : leadA md ops m = true) (hwait : waitA md ops m = true) (him : i < m) (hi : ops[i]? = some oi) (hsel : ∀ (j : Nat) (o : Oper) cs b, ops[j]? = some o → o.op ≠ .select cs b) :
    ∀ (fuel : Nat) (listed : Array Bool) (a : Act), Down md ops listed →
      (∀ j oj, ops[j]? = some oj → j ≠ i → listed.getD j true = false → (∀ e ∈ oj.after, Region.binds md e = true → e.on ≠ i) → oi.apart ops oj = true) →
      i ∈ Region.ready md ops listed → YieldsIn P ops C oi v a →
      AnyP P md ops C m Q fuel (listed.setIfInBounds i true) (a.put oi.dst v) → AnyP P md ops C m Q (fuel + 1) listed a := by
  intro fuel
  induction fuel with
  | zero =>
    intro listed a _ _ hr hy H
    refine ⟨fun h => (by rw [h] at hr; cases hr), fun j hj => ?_⟩
    by_cases hji : j = i
    · subst hji; exact ⟨fun _ => hy.qOp hi H, fun h => absurd him (by omega)⟩
    · have := ready_mono hj hji
      rw [H.1] at this
      cases this
  | succ fuel ih =>
    intro listed a hD hfree hr hy H
    refine ⟨fun h => (by rw [h] at hr; cases hr), fun j hj => ?_⟩
    by_cases hji : j = i
    · subst hji; exact ⟨fun _ => hy.qOp hi H, fun h => absurd him (by omega)⟩
    · have hjm : j < m := leadA_lt hlead hwait hD him (mem_ready.1 hr).1 hj
      refine ⟨fun _ => ?_, fun h => absurd hjm (by omega)⟩
      have h1 := (H.2 j (ready_mono hj hji)).1 hjm
      obtain ⟨hjun, oj, hoj, hall⟩ := mem_ready.1 hj
      have hnot : ∀ e ∈ oj.after, Region.binds md e = true → e.on ≠ i := fun e he hb heq => by
        have h1 := hall e he hb
        have h0 := un_false (mem_ready.1 hr).1
        rw [heq, h0] at h1
        cases h1
      have h2 := qOp_put hoj (hfree j oj hoj hji hjun hnot) (fun cs b => hsel i oi cs b hi) (fun cs b => hsel j oj cs b hoj) hy h1
      have hfree' : ∀ k ok, ops[k]? = some ok → k ≠ i → (listed.setIfInBounds j true).getD k true = false →
          (∀ e ∈ ok.after, Region.binds md e = true → e.on ≠ i) → oi.apart ops ok = true := fun k ok hk hki hun hno => by
        refine hfree k ok hk hki ?_ hno
        by_cases hjk : j = k
        · subst hjk; exact hjun
        · rw [getD_set_ne true hjk] at hun; exact hun
      refine qOp_mono (fun a' h3 => ih (listed.setIfInBounds j true) a' (hD.set hj) hfree' (ready_mono hr (Ne.symm hji)) h3.1 ?_) h2
      rw [Array.setIfInBounds_comm _ _ hji]
      exact h3.2
def splitFrom (md : Region.Mode) (ops : Array Oper) (m : Nat) : Nat → Nat → Array Bool → Bool
  | 0, _, _ => false
  | fuel + 1, k, listed => if k < m then (Region.ready md ops listed).contains k && Region.free md ops listed k && splitFrom md ops m fuel (k + 1) (listed.setIfInBounds k true) else Region.ready md ops listed == [k] && Region.lexFrom md ops fuel (k + 1) (listed.setIfInBounds k true)
def splitB (md : Region.Mode) (ops : Array Oper) (m : Nat) : Bool := Region.noSelect ops && leadA md ops m && waitA md ops m && splitFrom md ops m ops.size 0 (Array.replicate ops.size false)
/-- What is left behind the call. -/
def TailQ (P : Program) (ops : Array Oper) (Q : Exit → Act → World → Prop) (l : List Oper) (a : Act) (w : World) : Prop := wpQuiet P ops (fun v => ∃ n, v = w.drewN n) (fun a' => ∀ w', (∃ n, w' = w.drewN n) → Q .normal a' w') l a
theorem split_lex {Q : Exit → Act → World → Prop} (hs : Region.noSelect ops = true) (hlead : leadA md ops m = true) (hwait : waitA md ops m = true) (o : Oper) (l2 : List Oper) : ∀ (l : List Oper) (k : Nat) (listed : Array Bool) (a : Act), (∀ j, (l ++ o :: l2)[j]? = ops[k + j]?) → k + l.length = m →
    Down md ops listed → splitFrom md ops m (l.length + (l2.length + 1)) k listed = true → wpQuiet P ops C (fun a' => ∀ w', C w' → wpOp P ops Q m (TailQ P ops Q l2) a' w') l a → AnyP P md ops C m Q (l.length + (l2.length + 1)) listed a
  | [], k, listed, a, hl, hkm, _, hB, h => by
    simp only [List.length_nil, Nat.zero_add, Nat.add_zero] at *
    subst hkm
    simp only [wpQuiet] at h
    simp only [splitFrom, Nat.lt_irrefl, if_false, Bool.and_eq_true, beq_iff_eq] at hB
    refine ⟨fun e => (by rw [hB.1] at e; cases e), fun i hi => ?_⟩
    rw [hB.1, List.mem_singleton] at hi
    subst hi
    refine ⟨fun h' => absurd h' (by omega), fun _ w hw => wpOp_mono (fun a' w' hq => ?_) (h w hw)⟩
    refine wpAny_of_quiet (C := fun v => ∃ n, v = w'.drewN n) (Q := fun a' => ∀ w2, (∃ n, w2 = w'.drewN n) → Q .normal a' w2) (fun _ w2 hw2 h => h w2 hw2) _ _ _ _ ⟨0, by simp [World.drewN_zero]⟩ ?_
    exact wpAnyQ_lex hs l2 (i + 1) _ a' (fun j => by have := hl (j + 1); simpa [Nat.add_assoc, Nat.add_comm 1 j] using this) hB.2 hq
  | o' :: l, k, listed, a, hl, hkm, hD, hB, h => by
    have h0 : ops[k]? = some o' := by simpa using (hl 0).symm
    have hk : k < m := by simp at hkm; omega
    rw [show (o' :: l).length + (l2.length + 1) = (l.length + (l2.length + 1)) + 1 by simp; omega] at hB ⊢
    simp only [splitFrom, hk, if_true, Bool.and_eq_true] at hB
    obtain ⟨⟨hr, hf⟩, hB'⟩ := hB
    have hr' : k ∈ Region.ready md ops listed := by simpa using hr
    have hst : qOp P ops C k (wpQuiet P ops C (fun a' => ∀ w', C w' → wpOp P ops Q m (TailQ P ops Q l2) a' w') l) a := by unfold qOp; simp only [h0]; exact h
    obtain ⟨v, hy, hK⟩ := yieldsIn_of_qOp h0 hst
    exact AnyP_first hlead hwait hk h0 (Region.noSelect_spec hs) (l.length + (l2.length + 1)) listed a hD (Region.free_spec h0 hf) hr' hy
      (split_lex hs hlead hwait o l2 l (k + 1) _ _ (fun j => by have := hl (j + 1); simpa [Nat.add_assoc, Nat.add_comm 1 j] using this) (by simp at hkm; omega) (hD.set hr') hB' hK)
theorem wpQuiet_mono {Q Q' : Act → Prop} (h : ∀ a, Q a → Q' a) : ∀ (l : List Oper) (a : Act), wpQuiet P ops C Q l a → wpQuiet P ops C Q' l a
  | [], a, hh => h a hh
  | o :: l, a, hh => by
    unfold wpQuiet at *
    split
    · rename_i hw
      simp only [hw, if_true] at hh
      obtain ⟨v, h1, h2⟩ := hh
      exact ⟨v, h1, wpQuiet_mono h l _ h2⟩
    · rename_i hw
      simp only [hw] at hh
      exact wpQuiet_mono h l _ hh
/-- The law, at the class 'w behind some draws'. -/
theorem region_split (l1 : List Oper) (o : Oper) (l2 : List Oper) {id : Nat} {Q : Exit → Act → World → Prop} {a : Act} {w : World} (hm : P.follows .mixedOrders = true) (hB : splitB .any (l1 ++ o :: l2).toArray l1.length = true) (hg : o.guard = none)
    (h : wpQuiet P (l1 ++ o :: l2).toArray (fun w' => ∃ n, w' = w.drewN n) (fun a' => ∀ w', (∃ n, w' = w.drewN n) → Oper.wp P o a' w' (TailQ P (l1 ++ o :: l2).toArray Q l2) Q) l1 a) : (Code.region id (l1 ++ o :: l2).toArray true).wp P Q a w := by
  simp only [splitB, Bool.and_eq_true] at hB
  refine wp_region_any hm (wpAny_of_AnyP (C := fun w' => ∃ n, w' = w.drewN n) (m := l1.length) _ _ _ _ ⟨1, rfl⟩ ?_)
  have e : l1.length + (l2.length + 1) = (l1 ++ o :: l2).toArray.size := by simp
  have ho : (l1 ++ o :: l2).toArray[l1.length]? = some o := by simp
  have hq : wpQuiet P (l1 ++ o :: l2).toArray (fun w' => ∃ n, w' = w.drewN n) (fun a' => ∀ w', (∃ n, w' = w.drewN n) → wpOp P (l1 ++ o :: l2).toArray Q l1.length (TailQ P (l1 ++ o :: l2).toArray Q l2) a' w') l1 a := by
    refine wpQuiet_mono (fun a' h w' hw => ?_) _ _ h
    unfold wpOp
    simp only [ho]
    rw [if_pos (by simp [Region.wanted, hg])]
    exact .inl (h w' hw)
  have := split_lex (P := P) (C := fun w' => ∃ n, w' = w.drewN n) (md := .any) (m := l1.length) (Q := Q) hB.1.1.1 hB.1.1.2 hB.1.2 o l2 l1 0 (Array.replicate (l1 ++ o :: l2).toArray.size false) a
    (fun j => by simp) (by simp) (fun j oj hj hl => by simp at hj; obtain ⟨hj, _⟩ := List.getElem?_eq_some_iff.1 hj; simp at hj; simp [hj] at hl) (by rw [e]; exact hB.2) hq
  rw [e] at this
  exact this
theorem op_of_list {i : Nat} {o : Oper} {a : Act} {w : World} {K : Act → World → Prop} {Q : Exit → Act → World → Prop} (ho : ops[i]? = some o) (h : wpList P ops (Exit.then K Q) [o] a w) : wpOp P ops Q i K a w := by
  unfold wpList at h
  unfold wpOp
  simp only [ho]
  split
  · rename_i hw
    simp only [hw, if_true] at h
    rcases h with h | ⟨h1, h2⟩
    · refine .inl ?_
      unfold Oper.wp at *
      generalize (execOp a.eval o).run P w = r at *
      cases r with
      | ok x w' => cases x <;> exact h
      | halt x w' => cases x <;> exact h
    · exact .inr ⟨h1, h2⟩
  · rename_i hw; simp only [hw] at h; exact h
/-- The law for operations that are written out, the m-th the call. -/
theorem region_split_lit (m : Nat) {l : List Oper} (o : Oper) {id : Nat} {Q : Exit → Act → World → Prop} {a : Act} {w : World} (ho : l[m]? = some o) (hm : P.follows .mixedOrders = true) (hB : splitB .any l.toArray m = true)
    (h : wpQuiet P l.toArray (fun w' => ∃ n, w' = w.drewN n) (fun a' => ∀ w', (∃ n, w' = w.drewN n) → wpList P l.toArray (Exit.then (TailQ P l.toArray Q (l.drop (m + 1))) Q) [o] a' w') (l.take m) a) : (Code.region id l.toArray true).wp P Q a w := by
  simp only [splitB, Bool.and_eq_true] at hB
  have hml : m < l.length := (List.getElem?_eq_some_iff.1 ho).1
  refine wp_region_any hm (wpAny_of_AnyP (C := fun w' => ∃ n, w' = w.drewN n) (m := m) _ _ _ _ ⟨1, rfl⟩ ?_)
  have el : l = l.take m ++ o :: l.drop (m + 1) := by
    have h1 := List.take_append_drop m l
    rw [List.drop_eq_getElem_cons hml] at h1
    have h2 : l[m] = o := (List.getElem?_eq_some_iff.1 ho).2
    rw [h2] at h1
    exact h1.symm
  have e1 : (l.take m).length = m := by simp; omega
  have e : (l.take m).length + ((l.drop (m + 1)).length + 1) = l.toArray.size := by simp; omega
  have ho' : l.toArray[m]? = some o := by simpa using ho
  have hq : wpQuiet P l.toArray (fun w' => ∃ n, w' = w.drewN n) (fun a' => ∀ w', (∃ n, w' = w.drewN n) → wpOp P l.toArray Q m (TailQ P l.toArray Q (l.drop (m + 1))) a' w') (l.take m) a :=
    wpQuiet_mono (fun a' h w' hw => op_of_list ho' (h w' hw)) _ _ h
  have := split_lex (P := P) (C := fun w' => ∃ n, w' = w.drewN n) (md := .any) (m := m) (Q := Q) hB.1.1.1 hB.1.1.2 hB.1.2 o (l.drop (m + 1)) (l.take m) 0 (Array.replicate l.toArray.size false) a
    (fun j => by rw [← el]; simp) (by rw [e1]; omega) (fun j oj hj hl => by simp at hj; obtain ⟨hj, _⟩ := List.getElem?_eq_some_iff.1 hj; simp [hj] at hl) (by rw [e]; exact hB.2) hq
  rw [e] at this
  exact this
end
end Go.Proofs.Ytaapdkjmlplhgaa
