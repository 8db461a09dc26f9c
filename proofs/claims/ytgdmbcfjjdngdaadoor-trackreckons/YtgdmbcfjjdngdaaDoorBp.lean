/- Sets of small numbers in plain words: words of 64 bits beside a list of truths. -/
import Derived.Test.YtgdmbcfjjdngdaaDoorBa
import Derived.Lib.TrailingZeros
import Derived.Laws.Bits64b
set_option linter.unusedSimpArgs false
set_option linter.unusedVariables false
namespace Go.Proofs.YtgdmbcfjjdngdaaDoor
open Go.RowKit Go.Sort

def bt (W : List Nat) (i : Nat) : Bool := (W.getD (i / 64) 0).testBit (i % 64)
/-- The words W hold the truths T. -/
structure Rep (T : List Bool) (W : List Nat) : Prop where
  len : W.length = (T.length + 63) / 64
  lt : ∀ x ∈ W, x < 18446744073709551616
  is : ∀ i, bt W i = T.getD i false
theorem Rep.word {T : List Bool} {W : List Nat} (h : Rep T W) (k : Nat) : W.getD k 0 < 18446744073709551616 := by
  rw [List.getD_eq_getElem?_getD]
  cases e : W[k]? with
  | none => simp
  | some x => exact h.lt x (List.mem_of_getElem? e)
theorem lt64_of_testBit {x : Nat} (h : x < 18446744073709551616) {j : Nat} (hj : 64 ≤ j) : x.testBit j = false :=
  Nat.testBit_lt_two_pow (Nat.lt_of_lt_of_le (by omega) (Nat.pow_le_pow_right (by omega) hj : 2 ^ 64 ≤ 2 ^ j))
theorem Rep.nil (n : Nat) : Rep (List.replicate n false) (List.replicate ((n + 63) / 64) 0) := by
  refine ⟨by simp, fun x hx => by rw [List.eq_of_mem_replicate hx]; omega, fun i => ?_⟩
  have h1 : (List.replicate ((n + 63) / 64) 0).getD (i / 64) 0 = 0 := by
    rw [List.getD_eq_getElem?_getD, List.getElem?_replicate]; split <;> rfl
  unfold bt
  rw [h1, Nat.zero_testBit, List.getD_eq_getElem?_getD, List.getElem?_replicate]
  split <;> rfl
/-- One word for another. -/
theorem bt_set (W : List Nat) (k x : Nat) (hk : k < W.length) (j : Nat) : bt (W.set k x) j = if j / 64 = k then x.testBit (j % 64) else bt W j := by
  unfold bt
  rw [List.getD_eq_getElem?_getD, List.getElem?_set]
  split
  · rename_i h; rw [if_pos h.symm]; simp [← h, hk]
  · rename_i h; rw [if_neg (fun e => h e.symm), List.getD_eq_getElem?_getD]
theorem getD_set (T : List Bool) (i j : Nat) (b : Bool) (hi : i < T.length) : (T.set i b).getD j false = if j = i then b else T.getD j false := by
  rw [List.getD_eq_getElem?_getD, List.getElem?_set]
  split
  · rename_i h; rw [if_pos h.symm]; simp [← h, hi]
  · rename_i h; rw [if_neg (fun e => h e.symm), List.getD_eq_getElem?_getD]
theorem Rep.set {T : List Bool} {W : List Nat} (h : Rep T W) {i : Nat} (hi : i < T.length) (b : Bool) (x : Nat) (hx : x < 18446744073709551616)
    (hb : ∀ j, j < 64 → x.testBit j = if j = i % 64 then b else (W.getD (i / 64) 0).testBit j) : Rep (T.set i b) (W.set (i / 64) x) := by
  have hl := h.len
  refine ⟨by simp [hl], fun y hy => ?_, fun j => ?_⟩
  · rcases List.mem_or_eq_of_mem_set hy with h1 | h1
    · exact h.lt y h1
    · rw [h1]; exact hx
  · rw [bt_set _ _ _ (by omega), getD_set _ _ _ _ hi]
    split
    · rename_i e
      rw [hb _ (by omega)]
      by_cases e2 : j % 64 = i % 64
      · rw [if_pos e2, if_pos (by omega)]
      · rw [if_neg e2, if_neg (by rintro rfl; exact e2 rfl), ← h.is j]
        unfold bt
        rw [e]
    · rename_i e
      rw [if_neg (by rintro rfl; exact e rfl), h.is j]
theorem pow_lt64 {k : Nat} (h : k < 64) : 2 ^ k < 18446744073709551616 := Nat.lt_of_lt_of_le (Nat.pow_lt_pow_right (by omega) h : 2 ^ k < 2 ^ 64) (by omega)
theorem Rep.add {T : List Bool} {W : List Nat} (h : Rep T W) {i : Nat} (hi : i < T.length) : Rep (T.set i true) (W.set (i / 64) (W.getD (i / 64) 0 ||| 2 ^ (i % 64))) := by
  have hw := h.word (i / 64)
  have hp : 2 ^ (i % 64) < 18446744073709551616 := pow_lt64 (Nat.mod_lt _ (by omega))
  refine h.set hi true _ (by have := Nat.or_lt_two_pow (n := 64) (by omega : W.getD (i / 64) 0 < 2 ^ 64) (by omega : 2 ^ (i % 64) < 2 ^ 64); omega) fun j hj => ?_
  rw [Nat.testBit_or, Nat.testBit_two_pow]
  by_cases e : j = i % 64
  · simp [e]
  · have e' : ¬ i % 64 = j := fun k => e k.symm
    simp [e, e']
/-- All bits of a word turned. -/
theorem not_testBit {x j : Nat} (hx : x < 18446744073709551616) (hj : j < 64) : (18446744073709551615 - x).testBit j = !x.testBit j := by
  have := Nat.testBit_two_pow_sub_succ (n := 64) (x := x) (by omega) j
  rw [show 2 ^ 64 - (x + 1) = 18446744073709551615 - x by omega] at this
  rw [this]
  simp [hj]
theorem Rep.del {T : List Bool} {W : List Nat} (h : Rep T W) {i : Nat} (hi : i < T.length) : Rep (T.set i false) (W.set (i / 64) (W.getD (i / 64) 0 &&& (18446744073709551615 - 2 ^ (i % 64)))) := by
  have hw := h.word (i / 64)
  have hp : 2 ^ (i % 64) < 18446744073709551616 := pow_lt64 (Nat.mod_lt _ (by omega))
  refine h.set hi false _ (by have := Nat.and_lt_two_pow (n := 64) (W.getD (i / 64) 0) (Nat.lt_of_le_of_lt (Nat.sub_le _ _) (by decide) : 18446744073709551615 - 2 ^ (i % 64) < 2 ^ 64); omega) fun j hj => ?_
  rw [Nat.testBit_and, not_testBit hp hj, Nat.testBit_two_pow]
  by_cases e : j = i % 64
  · simp [e]
  · have e' : ¬ i % 64 = j := fun k => e k.symm
    simp [e, e']
theorem and_pow_ne (x k : Nat) : (x &&& 2 ^ k ≠ 0) ↔ x.testBit k = true := by
  constructor
  · intro h
    by_cases hb : x.testBit k = true
    · exact hb
    · exfalso
      apply h
      apply Nat.eq_of_testBit_eq
      intro j
      rw [Nat.testBit_and, Nat.testBit_two_pow, Nat.zero_testBit]
      by_cases e : k = j
      · subst e; simp at hb; simp [hb]
      · simp [e]
  · intro h e
    have : (x &&& 2 ^ k).testBit k = true := by rw [Nat.testBit_and, Nat.testBit_two_pow]; simp [h]
    rw [e, Nat.zero_testBit] at this
    cases this
/-! ### The least one -/
/-- r is the least number below N, not below a, of which p is true; -1, if there is none. -/
def IsLeast (p : Nat → Bool) (N : Nat) (r : Int) : Prop := (r = -1 ∧ ∀ i, i < N → p i = false) ∨ ∃ k : Nat, k < N ∧ r = k ∧ p k = true ∧ ∀ i, i < k → p i = false
theorem IsLeast.uniq {p : Nat → Bool} {N : Nat} {r s : Int} (h : IsLeast p N r) (k : IsLeast p N s) : r = s := by
  rcases h with ⟨rfl, h⟩ | ⟨a, ha, rfl, pa, la⟩ <;> rcases k with ⟨rfl, k⟩ | ⟨b, hb, rfl, pb, lb⟩
  · rfl
  · rw [h b hb] at pb; cases pb
  · rw [k a ha] at pa; cases pa
  · rcases Nat.lt_trichotomy a b with hh | hh | hh
    · rw [lb a hh] at pa; cases pa
    · rw [hh]
    · rw [la b hh] at pb; cases pb
theorem ctz_spec (x : Nat) (hx : x ≠ 0) (hlt : x < 18446744073709551616) : Lib.ctz 64 x < 64 ∧ x.testBit (Lib.ctz 64 x) = true ∧ ∀ j, j < Lib.ctz 64 x → x.testBit j = false := by
  obtain ⟨m, hm, hl⟩ := Lib.ctzFrom_spec 64 x (by omega) (by omega)
  have e : Lib.ctz 64 x = Lib.ctzFrom 64 x := by simp [Lib.ctz, hx]
  rw [e]
  generalize Lib.ctzFrom 64 x = c at *
  refine ⟨hl, ?_, fun j hj => ?_⟩
  · rw [hm, Nat.testBit_two_pow_mul]; simp
  · rw [hm, Nat.testBit_two_pow_mul]; simp; omega
/-- The mask of all bits from s on. -/
theorem mask_testBit {s j : Nat} (hs : s < 64) (hj : j < 64) : (18446744073709551615 * 2 ^ s % 18446744073709551616).testBit j = decide (s ≤ j) := by
  have e : (18446744073709551616 : Nat) = 2 ^ 64 := by decide
  rw [e, Nat.testBit_mod_two_pow]
  have e2 : (18446744073709551615 : Nat) = 2 ^ 64 - 1 := by decide
  rw [Nat.mul_comm, Nat.testBit_two_pow_mul, e2, Nat.testBit_two_pow_sub_one]
  by_cases h : s ≤ j
  · simp [h, hj]; omega
  · simp [h]
end Go.Proofs.YtgdmbcfjjdngdaaDoor
