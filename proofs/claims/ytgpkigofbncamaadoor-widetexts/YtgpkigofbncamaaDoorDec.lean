/- Plain facts on decimal numerals: written in two pieces; written digit by digit from the end; read; read back. -/
import Derived.Lib.ItoaNum
import Derived.Lib.ParseIntB
import Derived.Lib.Repeat
namespace Go.Proofs.YtgpkigofbncamaaDoor
open Go.Lib

/-- The sign of a digit. -/
def dsg (d : Nat) : UInt8 := UInt8.ofNat (48 + d)
theorem dsg_nat {d : Nat} (h : d < 10) : (dsg d).toNat = 48 + d := by
  unfold dsg
  rw [UInt8.toNat_ofNat']
  omega
theorem dec_small {u : Nat} (h : u < 10) : decDigits u = [dsg u] := decDigits_one h
theorem dec_big {u : Nat} (h : ¬ u < 10) : decDigits u = decDigits (u / 10) ++ [dsg (u % 10)] := by rw [decDigits, dif_neg h]; rfl
/-- The last k digits, with noughts ahead. -/
def pad : Nat → Nat → List UInt8
  | 0, _ => []
  | k + 1, t => pad k (t / 10) ++ [dsg (t % 10)]
theorem dec_two (h : Nat) (h0 : 0 < h) : ∀ (k t : Nat), t < 10 ^ k → decDigits (h * 10 ^ k + t) = decDigits h ++ pad k t
  | 0, t, ht => by
    rw [Nat.pow_zero] at ht
    have : t = 0 := by omega
    subst this
    rw [Nat.pow_zero, Nat.mul_one, Nat.add_zero]
    simp [pad]
  | k + 1, t, ht => by
    have hp : 0 < 10 ^ k := Nat.pow_pos (by decide)
    have e : h * 10 ^ (k + 1) = h * 10 ^ k * 10 := by rw [Nat.pow_succ, Nat.mul_assoc]
    have h1 : 1 * 10 ^ k ≤ h * 10 ^ k := Nat.mul_le_mul_right _ h0
    rw [e, dec_big (by omega)]
    have e1 : (h * 10 ^ k * 10 + t) / 10 = h * 10 ^ k + t / 10 := by omega
    have e2 : (h * 10 ^ k * 10 + t) % 10 = t % 10 := by omega
    rw [e1, e2, dec_two h h0 k (t / 10) (by rw [Nat.pow_succ] at ht; omega)]
    simp [pad]
theorem pad_zero : ∀ k, pad k 0 = repeatL [48] k
  | 0 => rfl
  | k + 1 => by
    show pad k (0 / 10) ++ [dsg (0 % 10)] = _
    rw [Nat.zero_div, pad_zero k, Nat.zero_mod]
    rw [repeatL_add [48] k 1]
    rfl
theorem pad_eq : ∀ (k t : Nat), t < 10 ^ (k + 1) → pad (k + 1) t = repeatL [48] (k + 1 - (decDigits t).length) ++ decDigits t
  | 0, t, ht => by
    have ht' : t < 10 := by simpa using ht
    rw [dec_small ht']
    show pad 0 (t / 10) ++ [dsg (t % 10)] = _
    rw [Nat.mod_eq_of_lt ht']
    simp [pad, repeatL]
  | k + 1, t, ht => by
    show pad (k + 1) (t / 10) ++ [dsg (t % 10)] = _
    by_cases c : t < 10
    · have e : t / 10 = 0 := by omega
      rw [dec_small c, e, pad_zero, Nat.mod_eq_of_lt c]
      rfl
    · rw [pad_eq k (t / 10) (by rw [Nat.pow_succ] at ht; omega), dec_big c]
      simp
/-- The number in two pieces, the last of nineteen digits. -/
theorem dec_pieces {h t : Nat} (h0 : 0 < h) (ht : t < 10000000000000000000) :
    decDigits (h * 10000000000000000000 + t) = decDigits h ++ (repeatL [48] (19 - (decDigits t).length) ++ decDigits t) := by
  have := dec_two h h0 19 t ht
  rw [show (10 : Nat) ^ 19 = 10000000000000000000 from rfl, pad_eq 18 t ht] at this
  exact this
theorem dec_step (x : Nat) : decDigits x = (if x / 10 = 0 then [] else decDigits (x / 10)) ++ [dsg (x % 10)] := by
  by_cases c : x < 10
  · rw [dec_small c, if_pos (by omega), Nat.mod_eq_of_lt c]; rfl
  · rw [dec_big c, if_neg (by omega)]

/-! ### Reading -/
abbrev isDg (c : UInt8) : Prop := 48 ≤ c.toNat ∧ c.toNat ≤ 57
def dstep (acc : Nat) (c : UInt8) : Nat := acc * 10 + (c.toNat - 48)
def dval (acc : Nat) (l : List UInt8) : Nat := l.foldl dstep acc
theorem dval_nil (acc : Nat) : dval acc [] = acc := rfl
theorem dval_cons (acc : Nat) (c : UInt8) (r : List UInt8) : dval acc (c :: r) = dval (acc * 10 + (c.toNat - 48)) r := by
  unfold dval; rw [List.foldl_cons]; rfl
theorem dval_ge (l : List UInt8) (acc : Nat) : acc ≤ dval acc l := by
  induction l generalizing acc with
  | nil => exact Nat.le_refl _
  | cons c r ih =>
    rw [dval_cons]
    have := ih (acc * 10 + (c.toNat - 48))
    omega
theorem dval_app (l m : List UInt8) (acc : Nat) : dval acc (l ++ m) = dval (dval acc l) m := by
  induction l generalizing acc with
  | nil => rfl
  | cons c r ih => rw [List.cons_append, dval_cons, dval_cons, ih]
theorem dval_acc (l : List UInt8) (acc : Nat) : dval acc l = acc * 10 ^ l.length + dval 0 l := by
  induction l generalizing acc with
  | nil => rw [dval_nil, dval_nil, List.length_nil, Nat.pow_zero, Nat.mul_one, Nat.add_zero]
  | cons c r ih =>
    rw [dval_cons, dval_cons, List.length_cons, ih (acc * 10 + (c.toNat - 48)), ih (0 * 10 + (c.toNat - 48)), Nat.pow_succ, Nat.add_mul, Nat.add_mul, Nat.mul_assoc acc 10, Nat.mul_comm 10 (10 ^ r.length)]
    omega
theorem dval_lt (l : List UInt8) (h : ∀ c ∈ l, isDg c) : dval 0 l < 10 ^ l.length := by
  induction l with
  | nil => rw [dval_nil, List.length_nil, Nat.pow_zero]; omega
  | cons c r ih =>
    have hc := h c (by simp)
    have hr := ih (fun d hd => h d (by simp [hd]))
    rw [dval_cons, List.length_cons, dval_acc, Nat.pow_succ]
    have h1 : 0 * 10 + (c.toNat - 48) ≤ 9 := by unfold isDg at hc; omega
    have h2 : (0 * 10 + (c.toNat - 48)) * 10 ^ r.length ≤ 9 * 10 ^ r.length := Nat.mul_le_mul_right _ h1
    omega
theorem parse_all : ∀ (l : List UInt8) (acc : Nat), (∀ c ∈ l, isDg c) → acc ≤ 18446744073709551615 →
    parseUintM 18446744073709551615 acc l = if dval acc l ≤ 18446744073709551615 then .ok (dval acc l) else .range
  | [], acc, _, ha => by rw [if_pos (by exact ha)]; rfl
  | c :: r, acc, h, ha => by
    have hc := h c (by simp)
    have hg := dval_ge r (acc * 10 + (c.toNat - 48))
    unfold parseUintM
    rw [if_pos (show 48 ≤ c.toNat ∧ c.toNat ≤ 57 from hc)]
    show (if 1844674407370955162 ≤ acc then NumEnd.range else if 18446744073709551615 < acc * 10 + (c.toNat - 48) then NumEnd.range else parseUintM 18446744073709551615 (acc * 10 + (c.toNat - 48)) r) = if dval (acc * 10 + (c.toNat - 48)) r ≤ 18446744073709551615 then NumEnd.ok (dval (acc * 10 + (c.toNat - 48)) r) else NumEnd.range
    by_cases c1 : 1844674407370955162 ≤ acc
    · rw [if_pos c1, if_neg (by omega)]
    · rw [if_neg c1]
      by_cases c2 : 18446744073709551615 < acc * 10 + (c.toNat - 48)
      · rw [if_pos c2, if_neg (by omega)]
      · rw [if_neg c2]
        exact parse_all r _ (fun d hd => h d (by simp [hd])) (by omega)
theorem parse_uint {l : List UInt8} (h : ∀ c ∈ l, isDg c) (h0 : l ≠ []) : parseUintB 64 l = if dval 0 l ≤ 18446744073709551615 then .ok (dval 0 l) else .range := by
  unfold parseUintB
  rw [if_neg h0]
  exact parse_all l 0 h (by omega)
/-- A numeral without noughts ahead. -/
def canon (l : List UInt8) : Prop := l ≠ [] ∧ (∀ c ∈ l, isDg c) ∧ (l.length = 1 ∨ ∀ c r, l = c :: r → c ≠ 48)
theorem dig_eq {c : UInt8} (h : isDg c) : dsg (c.toNat - 48) = c := by
  unfold isDg at h
  apply UInt8.toNat_inj.1
  rw [dsg_nat (by omega)]
  omega
/-- A numeral is the number's own. -/
theorem dec_back : ∀ (n : Nat) (l : List UInt8), l.length = n → canon l → decDigits (dval 0 l) = l
  | 0, l, hl, hc => absurd (List.eq_nil_of_length_eq_zero hl) hc.1
  | n + 1, l, hl, hc => by
    obtain ⟨m, c, rfl⟩ : ∃ m c, l = m ++ [c] := ⟨l.dropLast, l.getLast hc.1, (List.dropLast_concat_getLast hc.1).symm⟩
    have hd : isDg c := hc.2.1 c (by simp)
    have hv : dval 0 (m ++ [c]) = dval 0 m * 10 + (c.toNat - 48) := by rw [dval_app]; rfl
    have hb : c.toNat - 48 < 10 := by unfold isDg at hd; omega
    rw [hv]
    by_cases hm : m = []
    · subst hm
      show decDigits (0 * 10 + (c.toNat - 48)) = [c]
      rw [dec_small (by omega), show 0 * 10 + (c.toNat - 48) = c.toNat - 48 from by omega, dig_eq hd]
    · have hlen : m.length = n := by simpa using hl
      have hcm : canon m := by
        refine ⟨hm, fun d hd' => hc.2.1 d (by simp [hd']), ?_⟩
        rcases hc.2.2 with h1 | h1
        · exfalso
          have : 0 < m.length := List.length_pos_iff.2 hm
          rw [List.length_append, List.length_singleton] at h1
          omega
        · right
          intro d r e
          exact h1 d (r ++ [c]) (by rw [e]; rfl)
      have ih := dec_back n m hlen hcm
      have hpos : 0 < dval 0 m := by
        obtain ⟨d, r, e⟩ : ∃ d r, m = d :: r := by
          cases m with
          | nil => exact absurd rfl hm
          | cons d r => exact ⟨d, r, rfl⟩
        have hd1 : isDg d := hcm.2.1 d (by rw [e]; simp)
        have hne : d ≠ 48 := by
          rcases hc.2.2 with h1 | h1
          · exfalso; rw [e] at h1; simp at h1
          · exact h1 d (r ++ [c]) (by rw [e]; rfl)
        have hn : d.toNat ≠ 48 := fun hh => hne (UInt8.toNat_inj.1 (by rw [hh]; rfl))
        rw [e]
        show 0 < dval (0 * 10 + (d.toNat - 48)) r
        have := dval_ge r (0 * 10 + (d.toNat - 48))
        unfold isDg at hd1
        omega
      rw [dec_big (by omega), show (dval 0 m * 10 + (c.toNat - 48)) / 10 = dval 0 m from by omega, show (dval 0 m * 10 + (c.toNat - 48)) % 10 = c.toNat - 48 from by omega, ih, dig_eq hd]
end Go.Proofs.YtgpkigofbncamaaDoor
