/- Plain facts on the reading of degrees by places. -/
import Derived.Test.YtmkechhjgdanmaaGreatDoorDegD
namespace Go.Proofs.YtmkechhjgdanmaaGreatDoor
open Go.RowKit Go.Sort Go.Lib

/-- Where the digits begin. -/
def beg (l : List UInt8) : Nat := if minus l then 1 else 0
/-- Where the digits from a place end. -/
def enD (l : List UInt8) (i : Nat) : Nat := i + (digs (l.drop i)).length
/-- The number of the digits ahead of a place. -/
def fv (l : List UInt8) (k : Nat) : Nat := dval 0 ((l.take k).filter isDg)
theorem minus_is {l : List UInt8} (h : minus l = true) : ∃ t, l = 45 :: t := by
  unfold minus at h
  split at h
  · exact ⟨_, rfl⟩
  · simp at h
theorem beg_le (l : List UInt8) : beg l ≤ l.length := by
  unfold beg
  by_cases h : minus l = true
  · rw [if_pos h]
    obtain ⟨t, rfl⟩ := minus_is h
    simp
  · rw [if_neg h]; omega
theorem unsign_drop (l : List UInt8) : unsign l = l.drop (beg l) := by
  unfold beg
  by_cases h : minus l = true
  · rw [if_pos h]
    obtain ⟨t, rfl⟩ := minus_is h
    rfl
  · rw [if_neg h, List.drop_zero]
    unfold unsign
    unfold minus at h
    split
    · simp at h
    · rfl
theorem take_beg (l : List UInt8) : (l.take (beg l)).filter isDg = [] := by
  unfold beg
  by_cases h : minus l = true
  · rw [if_pos h]
    obtain ⟨t, rfl⟩ := minus_is h
    rfl
  · rw [if_neg h]; rfl
theorem minus_bt {l : List UInt8} (h : 0 < l.length) : minus l = (bt l 0 == 45) := by
  cases l with
  | nil => simp at h
  | cons c t =>
    by_cases hc : c = 45
    · subst hc; rfl
    · have h2 : minus (c :: t) = false := by unfold minus; split <;> simp_all
      rw [h2, bt_get h]
      symm
      rw [beq_eq_false_iff_ne]
      intro e
      apply hc
      apply UInt8.toNat.inj
      show c.toNat = 45
      have : ((c :: t)[0]) = c := rfl
      rw [this] at e
      omega
theorem enD_le (l : List UInt8) {i : Nat} (h : i ≤ l.length) : i ≤ enD l i ∧ enD l i ≤ l.length := by
  have := digs_le (l.drop i)
  rw [List.length_drop] at this
  unfold enD
  omega
theorem enD_end (l : List UInt8) {i : Nat} (h : ¬ i < l.length) : enD l i = i := by
  unfold enD
  rw [List.drop_of_length_le (by omega)]
  rfl
theorem enD_no (l : List UInt8) {i : Nat} (h : i < l.length) (hd : isDg l[i] = false) : enD l i = i := by
  unfold enD
  rw [List.drop_eq_getElem_cons h]
  unfold digs
  rw [List.takeWhile_cons, if_neg (by rw [hd]; simp)]
  rfl
theorem enD_yes (l : List UInt8) {i : Nat} (h : i < l.length) (hd : isDg l[i] = true) : enD l i = enD l (i + 1) := by
  unfold enD
  rw [List.drop_eq_getElem_cons h]
  unfold digs
  rw [List.takeWhile_cons, if_pos hd, List.length_cons]
  omega
theorem rest_drop (l : List UInt8) : rest l = l.drop (digs l).length := by
  have h := digs_rest l
  have : (digs l ++ rest l).drop (digs l).length = rest l := by simp
  rw [h] at this
  exact this.symm
theorem fv_zero (l : List UInt8) : fv l (beg l) = 0 := by
  unfold fv
  rw [take_beg]
  rfl
theorem fv_no (l : List UInt8) {k : Nat} (h : k < l.length) (hd : isDg l[k] = false) : fv l (k + 1) = fv l k := by
  unfold fv
  rw [List.take_add_one, List.getElem?_eq_getElem h, List.filter_append]
  simp [hd]
theorem fv_yes (l : List UInt8) {k : Nat} (h : k < l.length) (hd : isDg l[k] = true) : (fv l (k + 1) : Int) = (fv l k : Int) * 10 + (bt l k - 48) := by
  have hd' := hd
  rw [dg_bt h] at hd'
  have hb := of_decide_eq_true hd'
  unfold fv
  rw [List.take_add_one, List.getElem?_eq_getElem h, List.filter_append]
  have : (some l[k]).toList.filter isDg = [l[k]] := by
    show [l[k]].filter isDg = _
    rw [List.filter_cons, if_pos hd]; rfl
  rw [this, dval_app, dval_cons, dval_nil]
  rw [bt_get h] at hb ⊢
  omega
theorem fv_le (l : List UInt8) (k : Nat) : fv l k ≤ fv l l.length := by
  unfold fv
  rw [List.take_length]
  have h : l.filter isDg = (l.take k).filter isDg ++ (l.drop k).filter isDg := by rw [← List.filter_append, List.take_append_drop]
  rw [h, dval_app]
  exact dval_ge _ _
theorem filt_digs (l : List UInt8) : (digs l).filter isDg = digs l := List.filter_eq_self.2 (digs_dg l)
theorem mval_eq (a b : List UInt8) : mval a b = dval 0 (a ++ b) * 10 ^ (6 - b.length) := by
  unfold mval
  rw [dval_app, dval_noughts]
theorem filt_all (l : List UInt8) : l.filter isDg = digs (l.drop (beg l)) ++ (l.drop (enD l (beg l))).filter isDg := by
  have h0 := take_beg l
  have h1 : l.filter isDg = (l.take (beg l)).filter isDg ++ (l.drop (beg l)).filter isDg := by rw [← List.filter_append, List.take_append_drop]
  have h2 : (l.drop (beg l)).filter isDg = (digs (l.drop (beg l))).filter isDg ++ (rest (l.drop (beg l))).filter isDg := by rw [← List.filter_append, digs_rest]
  have h3 : rest (l.drop (beg l)) = l.drop (enD l (beg l)) := by rw [rest_drop, List.drop_drop]; rfl
  rw [h1, h0, h2, filt_digs, h3, List.nil_append]
def sgM (l : List UInt8) (M : Nat) : Int × Int := if 180000000 < M then (0, 21) else (if minus l then -(M : Int) else (M : Int), 0)
theorem mic_none {l : List UInt8} (hl : ¬ 64 < l.length) (h : enD l (beg l) = beg l) : microV l = (0, 22) := by
  unfold microV cutP
  have : digs (unsign l) = [] := by
    rw [unsign_drop]
    apply List.eq_nil_of_length_eq_zero
    unfold enD at h
    omega
  rw [if_neg hl, if_pos this]
theorem rest_un (l : List UInt8) : rest (unsign l) = l.drop (enD l (beg l)) := by rw [unsign_drop, rest_drop, List.drop_drop]; rfl
theorem digs_un {l : List UInt8} (h : enD l (beg l) ≠ beg l) : digs (unsign l) ≠ [] := by
  rw [unsign_drop]
  intro e
  apply h
  unfold enD
  rw [e]; rfl
theorem mic_flat {l : List UInt8} (hl : ¬ 64 < l.length) (h : enD l (beg l) ≠ beg l) (hp : ∀ h : enD l (beg l) < l.length, l[enD l (beg l)] ≠ 46) :
    (enD l (beg l) ≠ l.length → microV l = (0, 22)) ∧ (enD l (beg l) = l.length → microV l = sgM l (fv l l.length * 10 ^ 6)) := by
  have hle := (enD_le l (beg_le l)).2
  have hu : unpoint (rest (unsign l)) = none := by
    rw [rest_un]
    by_cases hlt : enD l (beg l) < l.length
    · rw [List.drop_eq_getElem_cons hlt]
      have := hp hlt
      generalize l[enD l (beg l)] = c at *
      unfold unpoint
      split
      · simp_all
      · rfl
    · rw [List.drop_of_length_le (by omega)]; rfl
  have hc : cutP l = some (digs (unsign l), [], rest (unsign l)) := by
    unfold cutP
    rw [if_neg (digs_un h), hu]
  unfold microV
  rw [if_neg hl, hc]
  constructor
  · intro hne
    show (if rest (unsign l) ≠ [] ∨ _ then _ else _) = _
    rw [if_pos]
    left
    rw [rest_un]
    intro e
    have := congrArg List.length e
    rw [List.length_drop, List.length_nil] at this
    omega
  · intro he
    show (if rest (unsign l) ≠ [] ∨ _ then _ else _) = _
    have hr : rest (unsign l) = [] := by rw [rest_un, he, List.drop_length]
    rw [if_neg (by rw [hr]; simp)]
    have hm : mval (digs (unsign l)) [] = fv l l.length * 10 ^ 6 := by
      rw [mval_eq]
      unfold fv
      rw [List.take_length, filt_all, he, List.drop_length, unsign_drop]
      rfl
    rw [hm]
    rfl
theorem mic_point {l : List UInt8} (hl : ¬ 64 < l.length) (h : enD l (beg l) ≠ beg l) (hlt : enD l (beg l) < l.length) (hp : l[enD l (beg l)] = 46) (E : Nat) (hE : enD l (enD l (beg l) + 1) = E) :
    ((E = enD l (beg l) + 1 ∨ enD l (beg l) + 7 < E ∨ E ≠ l.length) → microV l = (0, 22)) ∧ (¬ (E = enD l (beg l) + 1 ∨ enD l (beg l) + 7 < E ∨ E ≠ l.length) → microV l = sgM l (fv l l.length * 10 ^ (6 - (l.length - enD l (beg l) - 1)))) := by
  have hle := (enD_le l (i := enD l (beg l) + 1) (by omega)).2
  have hge := (enD_le l (i := enD l (beg l) + 1) (by omega)).1
  have hdr : l.drop (enD l (beg l)) = 46 :: l.drop (enD l (beg l) + 1) := by rw [List.drop_eq_getElem_cons hlt, hp]
  have hu : unpoint (rest (unsign l)) = some (l.drop (enD l (beg l) + 1)) := by rw [rest_un, hdr]; rfl
  have hdl : (digs (l.drop (enD l (beg l) + 1))).length = E - (enD l (beg l) + 1) := by
    have : enD l (enD l (beg l) + 1) = enD l (beg l) + 1 + (digs (l.drop (enD l (beg l) + 1))).length := rfl
    omega
  have hrl : (rest (l.drop (enD l (beg l) + 1))).length = l.length - E := by
    have := len_dr (l.drop (enD l (beg l) + 1))
    rw [List.length_drop] at this
    omega
  by_cases h1 : E = enD l (beg l) + 1
  · refine ⟨fun _ => ?_, fun c => absurd (.inl h1) c⟩
    have : digs (l.drop (enD l (beg l) + 1)) = [] := List.eq_nil_of_length_eq_zero (by omega)
    have hc : cutP l = none := by
      unfold cutP
      rw [if_neg (digs_un h), hu]
      show (if digs (l.drop (enD l (beg l) + 1)) = [] then none else some _) = _
      rw [if_pos this]
    unfold microV
    rw [if_neg hl, hc]
  · have hdn : digs (l.drop (enD l (beg l) + 1)) ≠ [] := fun e => by
      rw [e] at hdl
      have := (enD_le l (i := enD l (beg l) + 1) (by omega)).1
      simp at hdl
      omega
    have hc : cutP l = some (digs (unsign l), digs (l.drop (enD l (beg l) + 1)), rest (l.drop (enD l (beg l) + 1))) := by
      unfold cutP
      rw [if_neg (digs_un h), hu]
      show (if digs (l.drop (enD l (beg l) + 1)) = [] then none else some _) = _
      rw [if_neg hdn]
    unfold microV
    rw [if_neg hl, hc]
    show (_ → (if rest (l.drop (enD l (beg l) + 1)) ≠ [] ∨ 6 < (digs (l.drop (enD l (beg l) + 1))).length then _ else _) = _) ∧ (_ → (if rest (l.drop (enD l (beg l) + 1)) ≠ [] ∨ 6 < (digs (l.drop (enD l (beg l) + 1))).length then _ else _) = _)
    constructor
    · intro hor
      rw [if_pos]
      rcases hor with h2 | h2 | h2
      · exact absurd h2 h1
      · right; omega
      · left
        intro e
        rw [e] at hrl
        simp at hrl
        omega
    · intro hor
      have hEl : E = l.length := by
        rcases Nat.decEq E l.length with h2 | h2
        · exact absurd (.inr (.inr h2)) hor
        · exact h2
      have h7 : ¬ enD l (beg l) + 7 < E := fun c => hor (.inr (.inl c))
      have hr : rest (l.drop (enD l (beg l) + 1)) = [] := List.eq_nil_of_length_eq_zero (by omega)
      rw [if_neg (by rw [hr]; simp; omega)]
      have hm : mval (digs (unsign l)) (digs (l.drop (enD l (beg l) + 1))) = fv l l.length * 10 ^ (6 - (l.length - enD l (beg l) - 1)) := by
        rw [mval_eq, hdl]
        have hf : (l.drop (enD l (beg l))).filter isDg = digs (l.drop (enD l (beg l) + 1)) := by
          rw [hdr, List.filter_cons, if_neg (by decide)]
          have := digs_rest (l.drop (enD l (beg l) + 1))
          rw [hr, List.append_nil] at this
          rw [← this, filt_digs, this]
          exact this.symm
        unfold fv
        rw [List.take_length, filt_all, hf, unsign_drop, hEl]
        congr 2
      rw [hm]
      rfl
end Go.Proofs.YtmkechhjgdanmaaGreatDoor
