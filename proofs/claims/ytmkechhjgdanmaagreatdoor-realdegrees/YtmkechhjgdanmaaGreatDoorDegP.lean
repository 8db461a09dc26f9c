/- Plain facts on degrees: a text's millionths; the text of millionths, digit by digit; read back. -/
import Derived.Test.YtmkechhjgdanmaaGreatDoorCut
import Derived.Lib.ItoaNum
import Derived.Lib.Repeat
import Derived.Lib.TrimByte
namespace Go.Proofs.YtmkechhjgdanmaaGreatDoor
open Go.Lib

/-- The sign of a digit. -/
def dsg (d : Nat) : UInt8 := UInt8.ofNat (48 + d)
theorem dsg_nat {d : Nat} (h : d < 10) : (dsg d).toNat = 48 + d := by
  unfold dsg
  rw [UInt8.toNat_ofNat']
  omega
theorem dec_small {u : Nat} (h : u < 10) : decDigits u = [dsg u] := decDigits_one h
theorem dec_big {u : Nat} (h : ¬ u < 10) : decDigits u = decDigits (u / 10) ++ [dsg (u % 10)] := by rw [decDigits, dif_neg h]; rfl
/-- The last k digits, with noughts ahead. -/
def pad : Nat → Nat → List UInt8
  | 0, _ => []
  | k + 1, t => pad k (t / 10) ++ [dsg (t % 10)]
theorem dec_two (h : Nat) (h0 : 0 < h) : ∀ (k t : Nat), t < 10 ^ k → decDigits (h * 10 ^ k + t) = decDigits h ++ pad k t
  | 0, t, ht => by
    rw [Nat.pow_zero] at ht
    have : t = 0 := by omega
    subst this
    rw [Nat.pow_zero, Nat.mul_one, Nat.add_zero]
    simp [pad]
  | k + 1, t, ht => by
    have hp : 0 < 10 ^ k := Nat.pow_pos (by decide)
    have e : h * 10 ^ (k + 1) = h * 10 ^ k * 10 := by rw [Nat.pow_succ, Nat.mul_assoc]
    have h1 : 1 * 10 ^ k ≤ h * 10 ^ k := Nat.mul_le_mul_right _ h0
    rw [e, dec_big (by omega)]
    have e1 : (h * 10 ^ k * 10 + t) / 10 = h * 10 ^ k + t / 10 := by omega
    have e2 : (h * 10 ^ k * 10 + t) % 10 = t % 10 := by omega
    rw [e1, e2, dec_two h h0 k (t / 10) (by rw [Nat.pow_succ] at ht; omega)]
    simp [pad]
def dstep (acc : Nat) (c : UInt8) : Nat := acc * 10 + (c.toNat - 48)
def dval (acc : Nat) (l : List UInt8) : Nat := l.foldl dstep acc
theorem dval_nil (acc : Nat) : dval acc [] = acc := rfl
theorem dval_cons (acc : Nat) (c : UInt8) (r : List UInt8) : dval acc (c :: r) = dval (acc * 10 + (c.toNat - 48)) r := by
  unfold dval; rw [List.foldl_cons]; rfl
theorem dval_ge (l : List UInt8) (acc : Nat) : acc ≤ dval acc l := by
  induction l generalizing acc with
  | nil => exact Nat.le_refl _
  | cons c r ih =>
    rw [dval_cons]
    have := ih (acc * 10 + (c.toNat - 48))
    omega
theorem dval_app (l m : List UInt8) (acc : Nat) : dval acc (l ++ m) = dval (dval acc l) m := by
  induction l generalizing acc with
  | nil => rfl
  | cons c r ih => rw [List.cons_append, dval_cons, dval_cons, ih]
theorem dval_acc (l : List UInt8) (acc : Nat) : dval acc l = acc * 10 ^ l.length + dval 0 l := by
  induction l generalizing acc with
  | nil => rw [dval_nil, dval_nil, List.length_nil, Nat.pow_zero, Nat.mul_one, Nat.add_zero]
  | cons c r ih =>
    rw [dval_cons, dval_cons, List.length_cons, ih (acc * 10 + (c.toNat - 48)), ih (0 * 10 + (c.toNat - 48)), Nat.pow_succ, Nat.add_mul, Nat.add_mul, Nat.mul_assoc acc 10, Nat.mul_comm 10 (10 ^ r.length)]
    omega
theorem dval_lt (l : List UInt8) (h : ∀ c ∈ l, isDg c = true) : dval 0 l < 10 ^ l.length := by
  induction l with
  | nil => rw [dval_nil, List.length_nil, Nat.pow_zero]; omega
  | cons c r ih =>
    have hc := h c (by simp)
    have hr := ih (fun d hd => h d (by simp [hd]))
    rw [dval_cons, List.length_cons, dval_acc, Nat.pow_succ]
    have h1 : 0 * 10 + (c.toNat - 48) ≤ 9 := by simp only [decide_eq_true_eq] at hc; omega
    have h2 : (0 * 10 + (c.toNat - 48)) * 10 ^ r.length ≤ 9 * 10 ^ r.length := Nat.mul_le_mul_right _ h1
    omega
theorem dval_dec (n : Nat) : dval 0 (decDigits n) = n := by
  induction n using Nat.strongRecOn with
  | ind n ih =>
    by_cases c : n < 10
    · rw [dec_small c, dval_cons, dval_nil, dsg_nat c]; omega
    · rw [dec_big c, dval_app, ih (n / 10) (by omega), dval_cons, dval_nil, dsg_nat (Nat.mod_lt _ (by omega))]; omega
theorem dec_ne (n : Nat) : decDigits n ≠ [] := by
  by_cases c : n < 10
  · rw [dec_small c]; simp
  · rw [dec_big c]; simp
theorem dsg_dg {d : Nat} (h : d < 10) : isDg (dsg d) = true := by simp only [decide_eq_true_eq]; rw [dsg_nat h]; omega
theorem dec_digs (n : Nat) : ∀ c ∈ decDigits n, isDg c = true := by
  induction n using Nat.strongRecOn with
  | ind n ih =>
    by_cases c : n < 10
    · rw [dec_small c]
      intro x hx
      rw [List.mem_singleton] at hx
      subst hx
      exact dsg_dg c
    · rw [dec_big c]
      intro x hx
      rcases List.mem_append.1 hx with h | h
      · exact ih (n / 10) (by omega) x h
      · rw [List.mem_singleton] at h
        subst h
        exact dsg_dg (Nat.mod_lt _ (by omega))
/-- The digits of t ahead of the last noughts, of k in all. -/
def tr : Nat → Nat → List UInt8
  | 0, _ => []
  | k + 1, t => if t = 0 then [] else dsg (t / 10 ^ k) :: tr k (t % 10 ^ k)
theorem tr_succ {k t : Nat} (c : t ≠ 0) : tr (k + 1) t = dsg (t / 10 ^ k) :: tr k (t % 10 ^ k) := by
  show (if t = 0 then [] else dsg (t / 10 ^ k) :: tr k (t % 10 ^ k)) = _
  rw [if_neg c]
theorem tr_zero (k : Nat) : tr k 0 = [] := by cases k <;> simp [tr]
theorem pad_cons : ∀ (k t : Nat), t < 10 ^ (k + 1) → pad (k + 1) t = dsg (t / 10 ^ k) :: pad k (t % 10 ^ k)
  | 0, t, h => by
    have : t < 10 := by simpa using h
    show pad 0 (t / 10) ++ [dsg (t % 10)] = _
    rw [Nat.mod_eq_of_lt this]
    simp [pad]
  | k + 1, t, h => by
    have hp : 0 < 10 ^ k := Nat.pow_pos (by decide)
    show pad (k + 1) (t / 10) ++ [dsg (t % 10)] = _
    rw [pad_cons k (t / 10) (by rw [Nat.pow_succ] at h; omega)]
    show (dsg (t / 10 / 10 ^ k) :: pad k (t / 10 % 10 ^ k)) ++ [dsg (t % 10)] = dsg (t / 10 ^ (k + 1)) :: (pad k (t % 10 ^ (k + 1) / 10) ++ [dsg (t % 10 ^ (k + 1) % 10)])
    have e1 : t / 10 / 10 ^ k = t / 10 ^ (k + 1) := by rw [Nat.div_div_eq_div_mul, Nat.mul_comm, ← Nat.pow_succ]
    have e2 : t % 10 ^ (k + 1) / 10 = t / 10 % 10 ^ k := by rw [Nat.pow_succ, Nat.mul_comm, Nat.mod_mul_right_div_self]
    have e3 : t % 10 ^ (k + 1) % 10 = t % 10 := by rw [Nat.pow_succ]; exact Nat.mod_mul_left_mod _ _ _
    rw [e1, e2, e3]
    rfl
theorem dropw_app (c : UInt8) (l : List UInt8) (a : UInt8) : (l ++ [a]).dropWhile (· == c) = if l.dropWhile (· == c) = [] then (if a == c then [] else [a]) else l.dropWhile (· == c) ++ [a] := by
  induction l with
  | nil => simp [List.dropWhile]; split <;> simp_all
  | cons x l ih =>
    rw [List.cons_append, List.dropWhile_cons, List.dropWhile_cons]
    by_cases h : (x == c) = true
    · rw [if_pos h, if_pos h, ih]
    · rw [if_neg h, if_neg h, if_neg (by simp)]; rfl
theorem trim_cons (a c : UInt8) (l : List UInt8) : trimRightB (a :: l) c = if trimRightB l c = [] then (if a == c then [] else [a]) else a :: trimRightB l c := by
  unfold trimRightB
  rw [List.reverse_cons, dropw_app]
  by_cases h : l.reverse.dropWhile (· == c) = []
  · simp only [h, if_true, List.reverse_nil]
    split <;> rfl
  · rw [if_neg h, if_neg (by simpa using h)]
    simp
theorem trim_pad : ∀ (k t : Nat), t < 10 ^ k → trimRightB (pad k t) 48 = tr k t
  | 0, t, _ => rfl
  | k + 1, t, h => by
    have hp : 0 < 10 ^ k := Nat.pow_pos (by decide)
    have hd : t / 10 ^ k < 10 := by rw [Nat.div_lt_iff_lt_mul hp, Nat.mul_comm, ← Nat.pow_succ]; exact h
    rw [pad_cons k t h, trim_cons, trim_pad k _ (Nat.mod_lt _ hp)]
    have hs : (dsg (t / 10 ^ k) == 48) = decide (t / 10 ^ k = 0) := by
      by_cases c : t / 10 ^ k = 0
      · rw [c]; decide
      · rw [decide_eq_false c]
        rw [beq_eq_false_iff_ne]
        intro e
        have := congrArg UInt8.toNat e
        rw [dsg_nat hd] at this
        have : (48 : UInt8).toNat = 48 := rfl
        omega
    have hm := Nat.div_add_mod t (10 ^ k)
    by_cases c : t = 0
    · subst c
      rw [Nat.zero_mod, tr_zero, tr_zero, if_pos rfl, hs, decide_eq_true (Nat.zero_div _)]
      rfl
    · rw [tr_succ c]
      by_cases c2 : t % 10 ^ k = 0
      · rw [c2, tr_zero, if_pos rfl, hs, decide_eq_false (fun e => by rw [e, c2] at hm; omega)]
        rfl
      · rw [if_neg]
        cases k with
        | zero => simp at c2; omega
        | succ k => rw [tr_succ c2]; simp
theorem tr_digs : ∀ (k t : Nat), t < 10 ^ k → ∀ c ∈ tr k t, isDg c = true
  | 0, _, _ => by intro c hc; cases hc
  | k + 1, t, h => by
    have hp : 0 < 10 ^ k := Nat.pow_pos (by decide)
    have hd : t / 10 ^ k < 10 := by rw [Nat.div_lt_iff_lt_mul hp, Nat.mul_comm, ← Nat.pow_succ]; exact h
    by_cases c0 : t = 0
    · subst c0
      rw [tr_zero]
      intro c hc; cases hc
    · rw [tr_succ c0]
      intro c hc
      rcases List.mem_cons.1 hc with rfl | hc
      · exact dsg_dg hd
      · exact tr_digs k _ (Nat.mod_lt _ hp) c hc
theorem tr_len : ∀ (k t : Nat), (tr k t).length ≤ k
  | 0, _ => Nat.le_refl _
  | k + 1, t => by
    by_cases c0 : t = 0
    · subst c0; rw [tr_zero]; simp
    · rw [tr_succ c0]
      have := tr_len k (t % 10 ^ k)
      rw [List.length_cons]; omega
theorem dval_noughts (a : Nat) : ∀ k, dval a (List.replicate k 48) = a * 10 ^ k
  | 0 => by simp [dval]
  | k + 1 => by
    rw [List.replicate_succ, dval_cons, show (48 : UInt8).toNat - 48 = 0 from rfl, Nat.add_zero, dval_noughts (a * 10) k, Nat.pow_succ, Nat.mul_assoc, Nat.mul_comm 10]
theorem tr_val (a : Nat) : ∀ (k t : Nat), t < 10 ^ k → dval a (tr k t ++ List.replicate (k - (tr k t).length) 48) = a * 10 ^ k + t
  | 0, t, h => by
    have : t = 0 := by simpa using h
    subst this
    simp [tr, dval]
  | k + 1, t, h => by
    have hp : 0 < 10 ^ k := Nat.pow_pos (by decide)
    have hd : t / 10 ^ k < 10 := by rw [Nat.div_lt_iff_lt_mul hp, Nat.mul_comm, ← Nat.pow_succ]; exact h
    by_cases c : t = 0
    · subst c
      rw [tr_zero, List.nil_append, List.length_nil, Nat.sub_zero, dval_noughts]
      rfl
    · have e : tr (k + 1) t = dsg (t / 10 ^ k) :: tr k (t % 10 ^ k) := tr_succ c
      have ih := tr_val (a * 10 + t / 10 ^ k) k (t % 10 ^ k) (Nat.mod_lt _ hp)
      rw [e, List.length_cons, List.cons_append, dval_cons, dsg_nat hd, show 48 + t / 10 ^ k - 48 = t / 10 ^ k from Nat.add_sub_cancel_left _ _, show k + 1 - ((tr k (t % 10 ^ k)).length + 1) = k - (tr k (t % 10 ^ k)).length from by omega, ih, Nat.pow_succ, Nat.add_mul, Nat.mul_assoc, Nat.mul_comm 10]
      have hm := Nat.div_add_mod t (10 ^ k)
      rw [Nat.mul_comm] at hm
      omega
/-! ### A text's millionths -/
def mval (a b : List UInt8) : Nat := dval 0 (a ++ b ++ List.replicate (6 - b.length) 48)
def microV (l : List UInt8) : Int × Int :=
  if 64 < l.length then (0, 4)
  else match cutP l with
    | none => (0, 22)
    | some (a, b, r) => if r ≠ [] ∨ 6 < b.length then (0, 22) else if 180000000 < mval a b then (0, 21) else (if minus l then -(mval a b : Int) else (mval a b : Int), 0)
theorem digs_dg (l : List UInt8) : ∀ c ∈ digs l, isDg c = true := by
  unfold digs
  induction l with
  | nil => intro c hc; cases hc
  | cons x l ih =>
    rw [List.takeWhile_cons]
    split
    · rename_i hx
      intro c hc
      rcases List.mem_cons.1 hc with rfl | hc
      · exact hx
      · exact ih c hc
    · intro c hc; cases hc
theorem digs_le (l : List UInt8) : (digs l).length ≤ l.length := by have := len_dr l; omega
theorem cut_digs {l a b r : List UInt8} (h : cutP l = some (a, b, r)) : (∀ c ∈ a, isDg c = true) ∧ (∀ c ∈ b, isDg c = true) ∧ a.length ≤ l.length ∧ b.length ≤ l.length := by
  have h1 := unsign_len l
  have h2 := rest_len (unsign l)
  unfold cutP at h
  split at h
  · cases h
  · split at h
    · cases h
      exact ⟨digs_dg _, fun c hc => (by cases hc), Nat.le_trans (digs_le _) h1, Nat.zero_le _⟩
    · rename_i t ht
      split at h
      · cases h
      · cases h
        have h3 := unpoint_len ht
        have h4 := digs_le t
        exact ⟨digs_dg _, digs_dg _, Nat.le_trans (digs_le _) h1, by omega⟩
/-! ### The text of millionths -/
def degT (m : Int) : List UInt8 := (if m < 0 then [45] else []) ++ decDigits (m.natAbs / 1000000) ++ (if m.natAbs % 1000000 = 0 then [] else 46 :: tr 6 (m.natAbs % 1000000))
theorem take_dg {l : List UInt8} (h : ∀ c ∈ l, isDg c = true) (c : UInt8) (r : List UInt8) (hc : isDg c = false) : digs (l ++ c :: r) = l ∧ rest (l ++ c :: r) = c :: r := by
  unfold digs rest
  induction l with
  | nil => rw [List.nil_append, List.takeWhile_cons, List.dropWhile_cons, hc]; exact ⟨rfl, rfl⟩
  | cons x l ih =>
    have ih' := ih (fun c hc => h c (by simp [hc]))
    rw [List.cons_append, List.takeWhile_cons, List.dropWhile_cons, h x (by simp), if_pos rfl, if_pos rfl, ih'.1, ih'.2]
    exact ⟨rfl, rfl⟩
theorem take_dg' {l : List UInt8} (h : ∀ c ∈ l, isDg c = true) : digs l = l ∧ rest l = [] := by
  unfold digs rest
  induction l with
  | nil => exact ⟨rfl, rfl⟩
  | cons x l ih =>
    have ih' := ih (fun c hc => h c (by simp [hc]))
    rw [List.takeWhile_cons, List.dropWhile_cons, h x (by simp), if_pos rfl, if_pos rfl, ih'.1, ih'.2]
    exact ⟨rfl, rfl⟩
theorem unsign_dg {l r : List UInt8} (h : ∀ c ∈ l, isDg c = true) (h0 : l ≠ []) : unsign (l ++ r) = l ++ r ∧ minus (l ++ r) = false := by
  cases l with
  | nil => exact absurd rfl h0
  | cons x l =>
    have hx := h x (by simp)
    have hne : x ≠ 45 := fun e => by subst e; revert hx; decide
    constructor
    · show unsign (x :: (l ++ r)) = x :: (l ++ r)
      unfold unsign; split <;> simp_all
    · show minus (x :: (l ++ r)) = false
      unfold minus; split <;> simp_all
theorem cut_deg (m : Int) : cutP (degT m) = some (decDigits (m.natAbs / 1000000), (if m.natAbs % 1000000 = 0 then [] else tr 6 (m.natAbs % 1000000)), []) ∧ minus (degT m) = decide (m < 0) := by
  have hq := dec_digs (m.natAbs / 1000000)
  have hq0 := dec_ne (m.natAbs / 1000000)
  have hlt : m.natAbs % 1000000 < 10 ^ 6 := Nat.mod_lt _ (by decide)
  have ht := tr_digs 6 (m.natAbs % 1000000) hlt
  have hne : m.natAbs % 1000000 ≠ 0 → tr 6 (m.natAbs % 1000000) ≠ [] := fun c => by rw [tr_succ c]; simp
  unfold degT
  generalize decDigits (m.natAbs / 1000000) = D at *
  generalize m.natAbs % 1000000 = p at *
  generalize tr 6 p = T at *
  have core : ∀ l : List UInt8, unsign l = D ++ (if p = 0 then [] else 46 :: T) → cutP l = some (D, (if p = 0 then [] else T), []) := fun l hl => by
    unfold cutP
    rw [hl]
    by_cases c : p = 0
    · rw [if_pos c, if_pos c, List.append_nil, (take_dg' hq).1, (take_dg' hq).2, if_neg hq0]; rfl
    · rw [if_neg c, if_neg c, (take_dg hq 46 T (by decide)).1, (take_dg hq 46 T (by decide)).2, if_neg hq0]
      show (if digs T = [] then none else some (D, digs T, rest T)) = _
      rw [(take_dg' ht).1, (take_dg' ht).2, if_neg (hne c)]
  by_cases c : m < 0
  · rw [if_pos c, decide_eq_true c]
    exact ⟨core _ rfl, rfl⟩
  · rw [if_neg c, decide_eq_false c, List.nil_append]
    exact ⟨core _ (unsign_dg hq hq0).1, (unsign_dg hq hq0).2⟩
theorem deg_val (m : Int) : mval (decDigits (m.natAbs / 1000000)) (if m.natAbs % 1000000 = 0 then [] else tr 6 (m.natAbs % 1000000)) = m.natAbs := by
  have hlt : m.natAbs % 1000000 < 10 ^ 6 := Nat.mod_lt _ (by decide)
  have e : (if m.natAbs % 1000000 = 0 then [] else tr 6 (m.natAbs % 1000000)) = tr 6 (m.natAbs % 1000000) := by
    split
    · rename_i c; rw [c, tr_zero]
    · rfl
  unfold mval
  rw [e, List.append_assoc, dval_app, dval_dec, tr_val _ 6 _ hlt]
  show m.natAbs / 1000000 * 1000000 + m.natAbs % 1000000 = m.natAbs
  omega
theorem dec_len : ∀ (k n : Nat), n < 10 ^ (k + 1) → (decDigits n).length ≤ k + 1
  | 0, n, h => by
    have : n < 10 := by simpa using h
    rw [dec_small this]; simp
  | k + 1, n, h => by
    by_cases c : n < 10
    · rw [dec_small c]; simp
    · rw [dec_big c, List.length_append]
      have := dec_len k (n / 10) (by rw [Nat.pow_succ] at h; omega)
      simp; omega
theorem dec_len4 {n : Nat} (h : n < 10000) : (decDigits n).length ≤ 4 := dec_len 3 n h
theorem deg_len (m : Int) (h : m.natAbs ≤ 2147483648) : (degT m).length ≤ 64 := by
  have h1 := dec_len4 (n := m.natAbs / 1000000) (by omega)
  have h2 := tr_len 6 (m.natAbs % 1000000)
  unfold degT
  rw [List.length_append, List.length_append]
  split <;> split <;> simp <;> omega
/-- There and back. -/
theorem micro_deg (m : Int) (h : m.natAbs ≤ 180000000) : microV (degT m) = (m, 0) := by
  have hl := deg_len m (by omega)
  unfold microV
  rw [if_neg (by omega), (cut_deg m).1, (cut_deg m).2]
  show (if ([] : List UInt8) ≠ [] ∨ _ then _ else _) = _
  have h6 : ¬ (([] : List UInt8) ≠ [] ∨ 6 < (if m.natAbs % 1000000 = 0 then [] else tr 6 (m.natAbs % 1000000)).length) := by
    have := tr_len 6 (m.natAbs % 1000000)
    split <;> simp <;> omega
  rw [if_neg h6, deg_val, if_neg (by omega)]
  by_cases c : m < 0
  · rw [decide_eq_true c, if_pos rfl]; congr 1; omega
  · rw [decide_eq_false c, if_neg (by decide)]; congr 1; omega
theorem micro_bd (l : List UInt8) : (microV l).1.natAbs ≤ 180000000 := by
  unfold microV
  split
  · decide
  · split
    · decide
    · split
      · decide
      · split
        · decide
        · simp only []
          split <;> omega
end Go.Proofs.YtmkechhjgdanmaaGreatDoor
