/- A region that draws its order and whose first operations only read: one walk of these, then the rest in its order: inside a fence, in a round or not. -/
import Derived.Sort.QuietLawsIn
import Derived.Sort.BigQuietIn
import Derived.TacticsIn
import Derived.WalkKit
import Derived.Shelf.SlSortCmp.QuietGrown
namespace Go.Proofs.Ytaapdkjmlplhgaa
open Go Go.Sort
section
variable {F : Fence} {n : Nat} {P : Program} {ops : Array Oper} {md : Region.Mode} {C : World → Prop} {m : Nat}

/-- The listing goes down: what is listed has what it waits for listed. -/
def Down (md : Region.Mode) (ops : Array Oper) (listed : Array Bool) : Prop :=
  ∀ j oj, ops[j]? = some oj → listed.getD j true = true → ∀ e ∈ oj.after, Region.binds md e = true → listed.getD e.on false = true
theorem Down.set {listed : Array Bool} (h : Down md ops listed) {i : Nat} (hi : i ∈ Region.ready md ops listed) : Down md ops (listed.setIfInBounds i true) := by
  intro j oj hj hl e he hb
  by_cases hij : i = j
  · subst hij
    obtain ⟨_, o, ho, hall⟩ := mem_ready.1 hi
    rw [hj] at ho
    cases ho
    exact getD_set_true (hall e he hb)
  · rw [getD_set_ne true hij] at hl
    exact getD_set_true (h j oj hj hl e he hb)

def edgeB (md : Region.Mode) (ops : Array Oper) (d i : Nat) : Bool := match ops[d]? with
  | some o => o.after.any fun e => Region.binds md e && e.on == i
  | none => false
theorem edge_spec {d i : Nat} (h : edgeB md ops d i = true) : ∃ o, ops[d]? = some o ∧ ∃ e ∈ o.after, Region.binds md e = true ∧ e.on = i := by
  unfold edgeB at h
  split at h
  · rename_i o ho
    simp only [Array.any_eq_true, Bool.and_eq_true, beq_iff_eq] at h
    obtain ⟨k, hk, h1, h2⟩ := h
    exact ⟨o, ho, _, Array.getElem_mem hk, h1, h2⟩
  · cases h
/-- Each of the first m leads up to operation m; the later ones wait for m. -/
def leadB (md : Region.Mode) (ops : Array Oper) (m : Nat) : Bool :=
  ((List.range m).all fun i => (List.range (m + 1)).any fun d => decide (i < d) && edgeB md ops d i) && ((List.range ops.size).all fun j => decide (j ≤ m) || edgeB md ops j m)
theorem un_false {listed : Array Bool} {i : Nat} (h : listed.getD i true = false) : listed.getD i false = false := by
  by_cases hi : i < listed.size
  · simpa [hi] using h
  · simp [hi] at h
theorem lead_un (hB : leadB md ops m = true) {listed : Array Bool} (hD : Down md ops listed) : ∀ (k i : Nat), m - i = k → i < m → listed.getD i true = false → listed.getD m true = false ∧ m ∉ Region.ready md ops listed := by
  intro k
  induction k using Nat.strongRecOn with
  | _ k ih =>
    intro i hk hi hu
    simp only [leadB, Bool.and_eq_true, List.all_eq_true, List.mem_range, List.any_eq_true, decide_eq_true_eq] at hB
    obtain ⟨d, hd, hid, he⟩ := hB.1 i hi
    obtain ⟨o, ho, e, hee, hb, hon⟩ := edge_spec he
    have hf := un_false hu
    have hdu : listed.getD d true = false := by
      cases hc : listed.getD d true with
      | false => rfl
      | true =>
        have := hD d o ho hc e hee hb
        rw [hon, hf] at this
        cases this
    by_cases hdm : d = m
    · subst hdm
      refine ⟨hdu, fun hr => ?_⟩
      obtain ⟨_, o', ho', hall⟩ := mem_ready.1 hr
      rw [ho] at ho'
      cases ho'
      have := hall e hee hb
      rw [hon, hf] at this
      cases this
    · exact ih (m - d) (by omega) d rfl (by omega) hdu
theorem lead_lt (hB : leadB md ops m = true) {listed : Array Bool} (hD : Down md ops listed) {i : Nat} (hi : i < m) (hu : listed.getD i true = false) {j : Nat} (hj : j ∈ Region.ready md ops listed) : j < m := by
  obtain ⟨h1, h2⟩ := lead_un hB hD _ i rfl hi hu
  rcases Nat.lt_trichotomy j m with h | h | h
  · exact h
  · subst h; exact absurd hj h2
  · exfalso
    obtain ⟨_, o, ho, hall⟩ := mem_ready.1 hj
    simp only [leadB, Bool.and_eq_true, List.all_eq_true, List.mem_range, Bool.or_eq_true, decide_eq_true_eq] at hB
    rcases hB.2 j (Array.getElem?_eq_some_iff.1 ho).1 with h' | h'
    · omega
    · obtain ⟨o', ho', e, hee, hb, hon⟩ := edge_spec h'
      rw [ho] at ho'
      cases ho'
      have := hall e hee hb
      rw [hon, un_false h1] at this
      cases this

/-- Whatever order is picked: the first m are quiet; then the loud ones. -/
def AnyM (F : Fence) (n : Nat) (P : Program) (md : Region.Mode) (ops : Array Oper) (C : World → Prop) (m : Nat) (Q : Exit → Act → World → Prop) : Nat → Array Bool → Act → Prop
  | 0, listed, a => Region.ready md ops listed = [] ∧ ∀ w, C w → Q .normal a w
  | fuel + 1, listed, a =>
    (Region.ready md ops listed = [] → ∀ w, C w → Q .normal a w) ∧
    ∀ i ∈ Region.ready md ops listed, (i < m → qOpIn F n P ops C i (AnyM F n P md ops C m Q fuel (listed.setIfInBounds i true)) a) ∧
      (m ≤ i → ∀ w, C w → wpOpIn F n P ops Q i (wpAnyIn F n P md ops Q fuel (listed.setIfInBounds i true)) a w)

theorem wpIn_of_quietS {o : Oper} {a : Act} {K : Act → Prop} {K' : Act → World → Prop} {Q' : Exit → Act → World → Prop} {w : World} (hse : ∀ ρ, o.semAt F.round ρ = execOp ρ o) (hw : C w) (h : ∀ a w', C w' → K a → K' a w')
    (ha : o.askedIn F P a C) (hh : o.quietIn F n P a C K) : o.wpIn F n P a w K' Q' := by
  obtain ⟨v, h1, h2⟩ := hh
  have h3 := h1 w hw
  unfold Oper.quietAtIn at h3
  unfold Oper.wpIn
  refine ⟨ha w hw, ?_⟩
  rw [hse]
  generalize (execOp a.eval o).run P w = r at *
  cases r with
  | ok x w' =>
    cases x <;> simp only [Oper.quietUponIn] at h3 <;> simp only [Oper.uponIn]
    case value u =>
      obtain ⟨e1, e2⟩ := h3
      rw [e1, e2]
      exact h _ _ hw h2
    case skip =>
      obtain ⟨e1, e2⟩ := h3
      rw [e1, ← e2]
      exact h _ _ hw h2
    case enter f args =>
      obtain ⟨e1, hd, hc⟩ := h3
      rw [e1]
      exact ⟨hd, hc.mono fun e w'' ⟨he, hw''⟩ => by subst he; exact h _ _ hw'' h2⟩
  | halt x w' => simp only [Oper.quietUponIn] at h3

theorem wpOpIn_of_qOpS {i : Nat} {a : Act} {K : Act → Prop} {K' : Act → World → Prop} {Q' : Exit → Act → World → Prop} {w : World} (hse : ∀ o, ops[i]? = some o → ∀ ρ, o.semAt F.round ρ = execOp ρ o) (hC : C w) (h : ∀ a w', C w' → K a → K' a w')
    (hh : qOpIn F n P ops C i K a) : wpOpIn F n P ops Q' i K' a w := by
  unfold qOpIn at hh
  unfold wpOpIn
  split
  · rename_i ho; simp only [ho] at hh; exact h _ _ hC hh
  · rename_i o ho
    simp only [ho] at hh
    obtain ⟨ha, hh⟩ := hh
    split
    · rename_i hw; simp only [hw, if_true] at hh; exact wpIn_of_quietS (hse o ho) hC h ha hh
    · rename_i hw; simp only [hw] at hh; exact ⟨ha w hC, h _ _ hC hh⟩

theorem wpAnyIn_of_AnyM {Q : Exit → Act → World → Prop} (hse : ∀ (i : Nat) o, i < m → ops[i]? = some o → ∀ ρ, o.semAt F.round ρ = execOp ρ o) : ∀ (fuel : Nat) (listed : Array Bool) (a : Act) (w : World), C w →
    AnyM F n P md ops C m Q fuel listed a → wpAnyIn F n P md ops Q fuel listed a w
  | 0, _, _, _, hw, h => ⟨h.1, h.2 _ hw⟩
  | fuel + 1, _, _, _, hw, h => ⟨fun h0 => h.1 h0 _ hw, fun i hi => by
      rcases Nat.lt_or_ge i m with hm | hm
      · exact wpOpIn_of_qOpS (fun o ho => hse i o hm ho) hw (fun a' w' hw' => wpAnyIn_of_AnyM hse fuel _ a' w' hw') ((h.2 i hi).1 hm)
      · exact (h.2 i hi).2 hm _ hw⟩

theorem AnyM_first {Q : Exit → Act → World → Prop} {i : Nat} {oi : Oper} {v : Value} (hlead : leadB md ops m = true) (him : i < m) (hi : ops[i]? = some oi) (hsel : ∀ (j : Nat) (o : Oper) cs b, ops[j]? = some o → o.op ≠ .select cs b) :
    ∀ (fuel : Nat) (listed : Array Bool) (a : Act), Down md ops listed →
      (∀ j oj, ops[j]? = some oj → j ≠ i → listed.getD j true = false → (∀ e ∈ oj.after, Region.binds md e = true → e.on ≠ i) → oi.apart ops oj = true) →
      i ∈ Region.ready md ops listed → YieldsQuiet F n P ops C oi v a →
      AnyM F n P md ops C m Q fuel (listed.setIfInBounds i true) (a.put oi.dst v) → AnyM F n P md ops C m Q (fuel + 1) listed a := by
  intro fuel
  induction fuel with
  | zero =>
    intro listed a _ _ hr hy H
    refine ⟨fun h => (by rw [h] at hr; cases hr), fun j hj => ?_⟩
    by_cases hji : j = i
    · subst hji; exact ⟨fun _ => hy.qOpIn hi H, fun h => absurd him (by omega)⟩
    · have := ready_mono hj hji
      rw [H.1] at this
      cases this
  | succ fuel ih =>
    intro listed a hD hfree hr hy H
    refine ⟨fun h => (by rw [h] at hr; cases hr), fun j hj => ?_⟩
    by_cases hji : j = i
    · subst hji; exact ⟨fun _ => hy.qOpIn hi H, fun h => absurd him (by omega)⟩
    · have hjm : j < m := lead_lt hlead hD him (mem_ready.1 hr).1 hj
      refine ⟨fun _ => ?_, fun h => absurd hjm (by omega)⟩
      have h1 := (H.2 j (ready_mono hj hji)).1 hjm
      obtain ⟨hjun, oj, hoj, hall⟩ := mem_ready.1 hj
      have hnot : ∀ e ∈ oj.after, Region.binds md e = true → e.on ≠ i := fun e he hb heq => by
        have h1 := hall e he hb
        have h0 := un_false (mem_ready.1 hr).1
        rw [heq, h0] at h1
        cases h1
      have h2 := qOpIn_put hoj (hfree j oj hoj hji hjun hnot) (fun cs b => hsel i oi cs b hi) (fun cs b => hsel j oj cs b hoj) hy h1
      have hfree' : ∀ k ok, ops[k]? = some ok → k ≠ i → (listed.setIfInBounds j true).getD k true = false →
          (∀ e ∈ ok.after, Region.binds md e = true → e.on ≠ i) → oi.apart ops ok = true := fun k ok hk hki hun hno => by
        refine hfree k ok hk hki ?_ hno
        by_cases hjk : j = k
        · subst hjk; exact hjun
        · rw [getD_set_ne true hjk] at hun; exact hun
      refine qOpIn_mono (fun a' h3 => ih (listed.setIfInBounds j true) a' (hD.set hj) hfree' (ready_mono hr (Ne.symm hji)) h3.1 ?_) h2
      rw [Array.setIfInBounds_comm _ _ hji]
      exact h3.2

/-- The first m in their order, then each of the rest alone. -/
def headFrom (md : Region.Mode) (ops : Array Oper) (m : Nat) : Nat → Nat → Array Bool → Bool
  | 0, _, listed => (Region.ready md ops listed).isEmpty
  | fuel + 1, k, listed => (if k < m then (Region.ready md ops listed).contains k && Region.free md ops listed k else Region.ready md ops listed == [k]) && headFrom md ops m fuel (k + 1) (listed.setIfInBounds k true)
def headB (md : Region.Mode) (ops : Array Oper) (m : Nat) : Bool := Region.noSelect ops && leadB md ops m && headFrom md ops m ops.size 0 (Array.replicate ops.size false)

theorem loud_lex {Q : Exit → Act → World → Prop} : ∀ (l : List Oper) (k : Nat) (listed : Array Bool) (a : Act) (w : World), (∀ j, l[j]? = ops[k + j]?) → m ≤ k →
    headFrom md ops m l.length k listed = true → wpListIn F n P ops Q l a w → wpAnyIn F n P md ops Q l.length listed a w
  | [], _, _, _, _, _, _, hB, h => ⟨by simpa [headFrom] using hB, h⟩
  | o :: l, k, listed, a, w, hl, hk, hB, h => by
    have h0 : ops[k]? = some o := by simpa using (hl 0).symm
    simp only [List.length_cons, headFrom, show ¬ k < m by omega, if_false, Bool.and_eq_true, beq_iff_eq] at hB
    refine ⟨fun e => (by rw [hB.1] at e; cases e), fun i hi => ?_⟩
    rw [hB.1, List.mem_singleton] at hi
    subst hi
    have ih := fun a' w' => loud_lex (Q := Q) l (i + 1) (listed.setIfInBounds i true) a' w' (fun j => by have := hl (j + 1); simpa [Nat.add_assoc, Nat.add_comm 1 j] using this) (by omega) hB.2
    unfold wpListIn at h
    unfold wpOpIn
    simp only [h0]
    split
    · rename_i hw; simp only [hw, if_true] at h; exact Oper.wpIn_mono ih h
    · rename_i hw; simp only [hw] at h; exact ⟨h.1, ih _ _ h.2⟩

theorem head_lex {Q : Exit → Act → World → Prop} (hs : Region.noSelect ops = true) (hlead : leadB md ops m = true) (l2 : List Oper) : ∀ (l : List Oper) (k : Nat) (listed : Array Bool) (a : Act), (∀ j, (l ++ l2)[j]? = ops[k + j]?) → k + l.length = m →
    Down md ops listed → headFrom md ops m (l.length + l2.length) k listed = true → wpQuietIn F n P ops C (fun a' => ∀ w', C w' → wpListIn F n P ops Q l2 a' w') l a → AnyM F n P md ops C m Q (l.length + l2.length) listed a
  | [], k, listed, a, hl, hkm, _, hB, h => by
    simp only [List.length_nil, Nat.zero_add, Nat.add_zero] at *
    simp only [wpQuietIn] at h
    cases l2 with
    | nil => exact ⟨by simpa [headFrom] using hB, fun w hw => h w hw⟩
    | cons o l2 =>
      have hr : Region.ready md ops listed = [k] := by
        simp only [List.length_cons, headFrom, show ¬ k < m by omega, if_false, Bool.and_eq_true, beq_iff_eq] at hB
        exact hB.1
      refine ⟨fun e => (by rw [hr] at e; cases e), fun i hi => ?_⟩
      rw [hr, List.mem_singleton] at hi
      subst hi
      refine ⟨fun h' => absurd h' (by omega), fun _ w hw => ?_⟩
      have := loud_lex (m := m) (Q := Q) (o :: l2) i listed a w (by simpa using hl) (by omega) hB (h w hw)
      exact this.2 i (by rw [hr]; simp)
  | o :: l, k, listed, a, hl, hkm, hD, hB, h => by
    have h0 : ops[k]? = some o := by simpa using (hl 0).symm
    have hk : k < m := by simp at hkm; omega
    rw [show (o :: l).length + l2.length = (l.length + l2.length) + 1 by simp; omega] at hB ⊢
    simp only [headFrom, hk, if_true, Bool.and_eq_true] at hB
    obtain ⟨⟨hr, hf⟩, hB'⟩ := hB
    have hr' : k ∈ Region.ready md ops listed := by simpa using hr
    have hst : qOpIn F n P ops C k (wpQuietIn F n P ops C (fun a' => ∀ w', C w' → wpListIn F n P ops Q l2 a' w') l) a := by unfold qOpIn; simp only [h0]; exact h
    obtain ⟨v, hy, hK⟩ := yieldsQuiet_of_qOpIn h0 hst
    exact AnyM_first hlead hk h0 (Region.noSelect_spec hs) (l.length + l2.length) listed a hD (Region.free_spec h0 hf) hr' hy
      (head_lex hs hlead l2 l (k + 1) _ _ (fun j => by have := hl (j + 1); simpa [Nat.add_assoc, Nat.add_comm 1 j] using this) (by simp at hkm; omega) (hD.set hr') hB' hK)

/-- The law. -/
theorem wpIn_region_head (m : Nat) {id : Nat} {Q : Exit → Act → World → Prop} {a : Act} {w : World} {l : List Oper} (hse : ∀ (i : Nat) o, i < m → l.toArray[i]? = some o → ∀ ρ, o.semAt F.round ρ = execOp ρ o) (hm : P.follows .mixedOrders = true) (hml : m ≤ l.length) (hB : headB .any l.toArray m = true) (hC : C { w with drawn := w.drawn + 1 })
    (h : wpQuietIn F n P l.toArray C (fun a' => ∀ w', C w' → wpListIn F n P l.toArray Q (l.drop m) a' w') (l.take m) a) : (Code.region id l.toArray true).wpIn F n P Q a w := by
  simp only [headB, Bool.and_eq_true] at hB
  refine wpIn_region_any hm (wpAnyIn_of_AnyM (m := m) hse _ _ _ _ hC ?_)
  have e : (l.take m).length + (l.drop m).length = l.toArray.size := by simp; omega
  have := head_lex (F := F) (n := n) (P := P) (C := C) (md := .any) (ops := l.toArray) (m := m) (Q := Q) hB.1.1 hB.1.2 (l.drop m) (l.take m) 0 (Array.replicate l.toArray.size false) a
    (fun j => by simp) (by simp; omega) (fun j oj hj hl => by simp at hj; obtain ⟨hj, _⟩ := List.getElem?_eq_some_iff.1 hj; simp [hj] at hl) (by rw [e]; exact hB.2) h
  rw [e] at this
  exact this
def noDeferB (l : List Oper) : Bool := l.all fun o => match o.op with | .defer _ => false | _ => true
theorem noDefer_spec {l : List Oper} (h : noDeferB l = true) (i : Nat) (o : Oper) (ho : l.toArray[i]? = some o) (c : Call) : o.op ≠ .defer c := by
  intro e
  have := List.all_eq_true.1 h o (by simp at ho; exact List.mem_of_getElem? ho)
  simp [e] at this
/-- The law at the class 'w behind some draws'. -/
theorem region_head_lit (m : Nat) {id : Nat} {Q : Exit → Act → World → Prop} {a : Act} {w : World} {l : List Oper} (hd : noDeferB l = true) (hm : P.follows .mixedOrders = true) (hml : m ≤ l.length) (hB : headB .any l.toArray m = true)
    (h : wpQuietIn F n P l.toArray (fun w' => ∃ n, w' = w.drewN n) (fun a' => ∀ w', (∃ n, w' = w.drewN n) → wpListIn F n P l.toArray Q (l.drop m) a' w') (l.take m) a) : (Code.region id l.toArray true).wpIn F n P Q a w :=
  wpIn_region_head m (fun i o _ ho ρ => Oper.semAt_eq _ ρ o (noDefer_spec hd i o ho)) hm hml hB ⟨1, rfl⟩ h
/-- The law at the class 'w behind some draws and new blocks'. -/
theorem region_head_grown (m : Nat) {id : Nat} {Q : Exit → Act → World → Prop} {a : Act} {w : World} {l : List Oper} (hd : noDeferB l = true) (hm : P.follows .mixedOrders = true) (hml : m ≤ l.length) (hB : headB .any l.toArray m = true)
    (h : wpQuietIn F n P l.toArray (fun w' => ∃ p : GrownBy, w' = grow (w.drewN p.n) p.os) (fun a' => ∀ w', (∃ p : GrownBy, w' = grow (w.drewN p.n) p.os) → wpListIn F n P l.toArray Q (l.drop m) a' w') (l.take m) a) : (Code.region id l.toArray true).wpIn F n P Q a w :=
  wpIn_region_head m (fun i o _ ho ρ => Oper.semAt_eq _ ρ o (noDefer_spec hd i o ho)) hm hml hB ⟨⟨1, #[]⟩, by rw [grow_empty]; rfl⟩ h
end
end Go.Proofs.Ytaapdkjmlplhgaa
