/- Plain facts: a number's text is read as that number; a text that is read is the number's own. -/
import Derived.Test.YtgpkigofbncamaaDoorRParse
namespace Go.Proofs.YtgpkigofbncamaaDoor
open Go.Lib

theorem dval_dec (n : Nat) : dval 0 (decDigits n) = n := by
  induction n using Nat.strongRecOn with
  | ind n ih =>
    by_cases c : n < 10
    · rw [dec_small c, dval_cons, dval_nil, dsg_nat c]; omega
    · rw [dec_big c, dval_app, ih (n / 10) (by omega), dval_cons, dval_nil, dsg_nat (Nat.mod_lt _ (by omega))]; omega
theorem dec_digs (n : Nat) : ∀ c ∈ decDigits n, isDg c := by
  induction n using Nat.strongRecOn with
  | ind n ih =>
    by_cases c : n < 10
    · rw [dec_small c]
      intro x hx
      rw [List.mem_singleton] at hx
      subst hx
      unfold isDg
      rw [dsg_nat c]
      omega
    · rw [dec_big c]
      intro x hx
      rcases List.mem_append.1 hx with h | h
      · exact ih (n / 10) (by omega) x h
      · rw [List.mem_singleton] at h
        subst h
        unfold isDg
        rw [dsg_nat (Nat.mod_lt _ (by omega))]
        have := Nat.mod_lt n (show 10 > 0 by omega)
        omega
theorem dec_ne (n : Nat) : decDigits n ≠ [] := by
  by_cases c : n < 10
  · rw [dec_small c]; simp
  · rw [dec_big c]; simp
theorem dec_first (n : Nat) (h : n ≠ 0) : ∀ c r, decDigits n = c :: r → c ≠ 48 := by
  induction n using Nat.strongRecOn with
  | ind n ih =>
    intro c r e
    by_cases h1 : n < 10
    · rw [dec_small h1] at e
      simp only [List.cons.injEq] at e
      intro hc
      have h2 : (dsg n).toNat = 48 + n := dsg_nat h1
      rw [e.1, hc] at h2
      have : (48 : UInt8).toNat = 48 := rfl
      omega
    · rw [dec_big h1] at e
      cases hd : decDigits (n / 10) with
      | nil => exact absurd hd (dec_ne _)
      | cons c' r' =>
        rw [hd] at e
        simp only [List.cons_append, List.cons.injEq] at e
        rw [← e.1]
        exact ih (n / 10) (by omega) (by omega) c' r' hd
theorem dec_canon (n : Nat) : canon (decDigits n) := by
  refine ⟨dec_ne n, dec_digs n, ?_⟩
  by_cases h : n = 0
  · subst h; left; rw [dec_small (by omega)]; rfl
  · right; exact dec_first n h
theorem pneg_cons (d : List UInt8) : pneg (45 :: d) = true := by unfold pneg hasPrefix; simp
theorem pdig_cons (d : List UInt8) : pdig (45 :: d) = d := by
  have h := pneg_cons d
  unfold pneg at h
  unfold pdig trimPrefix
  rw [if_pos h]
  rfl
theorem pneg_dig {d : List UInt8} (h : ∀ c ∈ d, isDg c) : pneg d = false := by
  cases d with
  | nil => rfl
  | cons c r =>
    have hc := h c (by simp)
    unfold pneg hasPrefix
    rw [Bool.eq_false_iff]
    intro e
    have : 45 = c := by simpa using e
    subst this
    unfold isDg at hc
    have : (45 : UInt8).toNat = 45 := rfl
    omega
theorem pdig_dig {d : List UInt8} (h : ∀ c ∈ d, isDg c) : pdig d = d := by
  have h := pneg_dig h
  unfold pneg at h
  unfold pdig trimPrefix
  rw [h]
  rfl
/-- A number's text is read as that number. -/
theorem read_text {m : Int} (hm : inI m) : pcode (textI m) = 0 ∧ pnum (textI m) = m := by
  have hc := (canB_iff _).2 (dec_canon m.natAbs)
  have hi : inB m = true := decide_eq_true hm
  by_cases h : m < 0
  · have e : textI m = 45 :: decDigits m.natAbs := by unfold textI; rw [if_pos h]
    have hv : pval (textI m) = m := by
      unfold pval; rw [e, pneg_cons, pdig_cons, dval_dec]; simp; omega
    have hg : pgood (textI m) = true := by
      unfold pgood
      rw [e, pneg_cons, pdig_cons, hc]
      have : (decDigits m.natAbs == [48]) = false := by
        apply beq_false_of_ne
        intro e'
        have h1 := dval_dec m.natAbs
        rw [e'] at h1
        have h2 : dval 0 [48] = 0 := rfl
        omega
      rw [this]
      rfl
    have := pcode_ok hg (by rw [hv]; exact hi)
    rw [hv] at this
    exact this
  · have e : textI m = decDigits m.natAbs := by unfold textI; rw [if_neg h]
    have hn := pneg_dig (dec_digs m.natAbs)
    have hd := pdig_dig (dec_digs m.natAbs)
    have hv : pval (textI m) = m := by
      unfold pval; rw [e, hn, hd, dval_dec]; simp; omega
    have hg : pgood (textI m) = true := by
      unfold pgood
      rw [e, hn, hd, hc]
      rfl
    have := pcode_ok hg (by rw [hv]; exact hi)
    rw [hv] at this
    exact this
theorem text_len {m : Int} (hm : inI m) : (decDigits m.natAbs).length ≤ 39 := dec_len (k := 38) (by unfold inI at hm; rw [pow39]; omega)
theorem text_len' {m : Int} (hm : inI m) : (textI m).length ≤ 60 := by
  have := text_len hm
  unfold textI
  split
  · rw [List.length_cons]; omega
  · omega
theorem pcode_zero {l : List UInt8} (h : pcode l = 0) : pgood l = true ∧ inB (pval l) = true := by
  unfold pcode at h
  by_cases h1 : pgood l = true
  · rw [if_pos h1] at h
    by_cases h2 : inB (pval l) = true
    · exact ⟨h1, h2⟩
    · rw [if_neg h2] at h; omega
  · rw [if_neg h1] at h; omega
/-- What reading answers is a number that 128 bits hold. -/
theorem pnum_in (l : List UInt8) : inI (pnum l) := by
  unfold pnum
  by_cases h : (pgood l && inB (pval l)) = true
  · rw [if_pos h]
    rw [Bool.and_eq_true] at h
    have h2 := h.2
    unfold inB at h2
    have h3 := of_decide_eq_true h2
    exact h3
  · rw [if_neg h]; unfold inI; omega
/-- A text that is read is the number's own. -/
theorem text_read {l : List UInt8} (h : pcode l = 0) : textI (pnum l) = l := by
  obtain ⟨hg, hi⟩ := pcode_zero h
  rw [(pcode_ok hg hi).2]
  unfold pgood at hg
  rw [Bool.and_eq_true] at hg
  have hc := (canB_iff _).1 hg.1
  have hb := dec_back (pdig l).length (pdig l) rfl hc
  by_cases hn : pneg l = true
  · have e : l = 45 :: pdig l := neg_some hn rfl
    have h0 : dval 0 (pdig l) ≠ 0 := by
      intro h0
      rw [h0] at hb
      have h1 : decDigits 0 = [48] := by rw [dec_small (by omega)]; rfl
      rw [h1] at hb
      have := hg.2
      rw [hn, ← hb] at this
      exact absurd this (by decide)
    have hv : pval l = -((dval 0 (pdig l) : Nat) : Int) := by unfold pval; rw [if_pos hn]
    unfold textI
    rw [hv, if_pos (by omega), Int.natAbs_neg, Int.natAbs_natCast, hb]
    exact e.symm
  · have hn' : pneg l = false := by simpa using hn
    have e : l = pdig l := neg_none hn' rfl
    have hv : pval l = ((dval 0 (pdig l) : Nat) : Int) := by unfold pval; rw [if_neg hn]
    unfold textI
    rw [hv, if_neg (by omega), Int.natAbs_natCast, hb]
    exact e.symm
end Go.Proofs.YtgpkigofbncamaaDoor
