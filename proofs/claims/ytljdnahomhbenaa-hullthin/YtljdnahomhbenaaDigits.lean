/- Plain facts on lists of digits to the base 65536, the lowest first; nothing of the program is in here. -/
import Derived.WalkKit
namespace Go.Proofs.Ytljdnahomhbenaa
section
open Go.RowKit

/-- The digit number i. -/
def dg (l : List Int) (i : Nat) : Int := l.getD i 0
/-- 65536 to the k. -/
def pw : Nat → Int
  | 0 => 1
  | k + 1 => pw k * 65536
/-- What the first k digits are worth. -/
def vl (f : Nat → Int) : Nat → Int
  | 0 => 0
  | k + 1 => vl f k + f k * pw k
theorem pw_zero : pw 0 = 1 := rfl
theorem pw_succ (k : Nat) : pw (k + 1) = pw k * 65536 := rfl
theorem vl_zero (f : Nat → Int) : vl f 0 = 0 := rfl
theorem vl_succ (f : Nat → Int) (k : Nat) : vl f (k + 1) = vl f k + f k * pw k := rfl
/-- What a list is worth. -/
def vals (l : List Int) : Int := vl (dg l) l.length
/-- A digit. -/
def isD (d : Int) : Prop := 0 ≤ d ∧ d < 65536
def allD (f : Nat → Int) : Prop := ∀ i, isD (f i)

theorem pw_pos (k : Nat) : 0 < pw k := by
  induction k with
  | zero => decide
  | succ k ih => rw [pw_succ]; omega
theorem pw_add (j k : Nat) : pw (j + k) = pw j * pw k := by
  induction k with
  | zero => simp [pw]
  | succ k ih => rw [← Nat.add_assoc]; rw [pw_succ, pw_succ, ih, Int.mul_assoc]
theorem vl_congr {f g : Nat → Int} (k : Nat) (h : ∀ i, i < k → f i = g i) : vl f k = vl g k := by
  induction k with
  | zero => rfl
  | succ k ih => rw [vl_succ, vl_succ, ih fun i hi => h i (by omega), h k (by omega)]
theorem vl_bd {f : Nat → Int} (h : allD f) (k : Nat) : 0 ≤ vl f k ∧ vl f k < pw k := by
  induction k with
  | zero => rw [vl_zero, pw_zero]; omega
  | succ k ih =>
    rw [vl_succ, pw_succ]
    obtain ⟨h1, h2⟩ := h k
    have hp := pw_pos k
    have e1 : 0 ≤ f k * pw k := Int.mul_nonneg h1 (by omega)
    have e2 : f k * pw k ≤ 65535 * pw k := Int.mul_le_mul_of_nonneg_right (by omega) (by omega)
    omega
/-- Noughts at the end are worth nothing. -/
theorem vl_more {f : Nat → Int} (k j : Nat) (h : ∀ i, k ≤ i → f i = 0) : vl f (k + j) = vl f k := by
  induction j with
  | zero => rfl
  | succ j ih => rw [← Nat.add_assoc, vl_succ, ih, h (k + j) (by omega)]; omega
theorem dg_out (l : List Int) (i : Nat) (h : l.length ≤ i) : dg l i = 0 := by
  unfold dg; simp [List.getD, h]
theorem vals_more (l : List Int) (k : Nat) (h : l.length ≤ k) : vl (dg l) k = vals l := by
  obtain ⟨j, rfl⟩ := Nat.exists_eq_add_of_le h
  exact vl_more _ _ fun i hi => dg_out l i hi
theorem dg_snoc_lt (l : List Int) (d : Int) (i : Nat) (h : i < l.length) : dg (l ++ [d]) i = dg l i := by
  unfold dg; simp [List.getD, List.getElem?_append, h]
theorem dg_snoc_at (l : List Int) (d : Int) : dg (l ++ [d]) l.length = d := by
  unfold dg; simp [List.getD]
theorem vals_snoc (l : List Int) (d : Int) : vals (l ++ [d]) = vals l + d * pw l.length := by
  unfold vals
  rw [List.length_append]
  show vl _ (l.length + 1) = _
  rw [vl_succ, vl_congr (g := dg l) l.length fun i hi => dg_snoc_lt l d i hi, dg_snoc_at]
theorem vals_nil : vals [] = 0 := rfl
theorem allD_of {l : List Int} (h : ∀ d ∈ l, isD d) : allD (dg l) := by
  intro i
  by_cases hi : i < l.length
  · have : dg l i = l[i] := by unfold dg; simp [List.getD, hi]
    rw [this]; exact h _ (List.getElem_mem hi)
  · rw [dg_out l i (by omega)]; unfold isD; omega

/-! ### Without noughts at the end -/
def tl (f : Nat → Int) : Nat → Nat
  | 0 => 0
  | n + 1 => if f n = 0 then tl f n else n + 1
theorem tl_succ (f : Nat → Int) (n : Nat) : tl f (n + 1) = if f n = 0 then tl f n else n + 1 := rfl
theorem tl_le (f : Nat → Int) (n : Nat) : tl f n ≤ n := by
  induction n with
  | zero => exact Nat.le_refl _
  | succ n ih => rw [tl_succ]; split <;> omega
theorem tl_vl (f : Nat → Int) (n : Nat) : vl f (tl f n) = vl f n := by
  induction n with
  | zero => rfl
  | succ n ih =>
    rw [tl_succ]
    split
    · rename_i h; rw [ih, vl_succ, h]; omega
    · rfl
theorem tl_top (f : Nat → Int) (n : Nat) (h : tl f n ≠ 0) : f (tl f n - 1) ≠ 0 := by
  induction n with
  | zero => exact absurd rfl h
  | succ n ih =>
    rw [tl_succ] at h ⊢
    split at h
    · rename_i hz; rw [if_pos hz]; exact ih h
    · rename_i hz; rw [if_neg hz]; exact hz
/-- Without noughts at the end. -/
def nrm (l : List Int) : Prop := l.length ≠ 0 → dg l (l.length - 1) ≠ 0
def trim (l : List Int) : List Int := l.take (tl (dg l) l.length)
theorem trim_len (l : List Int) : (trim l).length = tl (dg l) l.length := by
  unfold trim; rw [List.length_take]; have := tl_le (dg l) l.length; omega
theorem dg_take (l : List Int) (n i : Nat) (h : i < n) : dg (l.take n) i = dg l i := by
  unfold dg; simp [List.getD, h]
theorem trim_vals (l : List Int) : vals (trim l) = vals l := by
  unfold vals
  rw [trim_len]
  unfold trim
  rw [vl_congr (f := dg (l.take (tl (dg l) l.length))) (g := dg l) _ fun i hi => dg_take l _ i hi, tl_vl]
theorem trim_nrm (l : List Int) : nrm (trim l) := by
  intro h
  rw [trim_len] at *
  unfold trim
  rw [dg_take l _ _ (by omega)]
  exact tl_top _ _ h
theorem trim_mem {l : List Int} {p : Int → Prop} (h : ∀ d ∈ l, p d) : ∀ d ∈ trim l, p d := fun d hd => h d (List.mem_of_mem_take hd)
theorem nrm_low {l : List Int} (hd : allD (dg l)) (hn : nrm l) (h : l.length ≠ 0) : pw (l.length - 1) ≤ vals l := by
  obtain ⟨k, hk⟩ := Nat.exists_eq_succ_of_ne_zero h
  have ht := hn h
  unfold vals
  rw [hk] at *
  show _ ≤ vl (dg l) k + dg l k * pw k
  have h1 := (vl_bd hd k).1
  have h2 := (hd k).1
  simp only [Nat.succ_eq_add_one, Nat.add_sub_cancel] at *
  have hp := pw_pos k
  have : 1 * pw k ≤ dg l k * pw k := Int.mul_le_mul_of_nonneg_right (by omega) (by omega)
  omega
theorem pw_mono {j k : Nat} (h : j ≤ k) : pw j ≤ pw k := by
  obtain ⟨i, rfl⟩ := Nat.exists_eq_add_of_le h
  induction i with
  | zero => exact Int.le_refl _
  | succ i ih => rw [← Nat.add_assoc]; have := ih (by omega); rw [pw_succ]; have := pw_pos (j + i); omega
/-- A number below 65536 to the k has at most k digits. -/
theorem nrm_short {l : List Int} (hd : allD (dg l)) (hn : nrm l) (k : Nat) (h : vals l < pw k) : l.length ≤ k := by
  by_cases h0 : l.length = 0
  · omega
  · have := nrm_low hd hn h0
    apply Nat.le_of_not_lt
    intro hk
    have := pw_mono (j := k) (k := l.length - 1) (by omega)
    omega
theorem nrm_zero {l : List Int} (hd : allD (dg l)) (hn : nrm l) : vals l = 0 ↔ l = [] := by
  constructor
  · intro h
    by_cases h0 : l.length = 0
    · exact List.eq_nil_of_length_eq_zero h0
    · have := nrm_low hd hn h0; have := pw_pos (l.length - 1); omega
  · rintro rfl; rfl

/-! ### The sum of two sizes -/
def sumC (f g : Nat → Int) : Nat → Int
  | 0 => 0
  | k + 1 => (f k + g k + sumC f g k) / 65536
def sumD (f g : Nat → Int) : Nat → List Int
  | 0 => []
  | k + 1 => sumD f g k ++ [(f k + g k + sumC f g k) % 65536]
theorem sumC_succ (f g : Nat → Int) (k : Nat) : sumC f g (k + 1) = (f k + g k + sumC f g k) / 65536 := rfl
theorem sumD_succ (f g : Nat → Int) (k : Nat) : sumD f g (k + 1) = sumD f g k ++ [(f k + g k + sumC f g k) % 65536] := rfl
theorem sumC_bd {f g : Nat → Int} (hf : allD f) (hg : allD g) (k : Nat) : 0 ≤ sumC f g k ∧ sumC f g k ≤ 1 := by
  induction k with
  | zero => show (0 : Int) ≤ 0 ∧ (0 : Int) ≤ 1; omega
  | succ k ih => rw [sumC_succ]; obtain ⟨a, b⟩ := hf k; obtain ⟨c, d⟩ := hg k; omega
theorem sumD_len (f g : Nat → Int) (k : Nat) : (sumD f g k).length = k := by
  induction k with
  | zero => rfl
  | succ k ih => rw [sumD_succ, List.length_append, ih]; rfl
theorem sumD_isD (f g : Nat → Int) (k : Nat) : ∀ d ∈ sumD f g k, isD d := by
  induction k with
  | zero => intro d hd; cases hd
  | succ k ih =>
    rw [sumD_succ]
    intro d hd
    rcases List.mem_append.1 hd with hd | hd
    · exact ih d hd
    · simp at hd; subst hd; unfold isD; omega
theorem sumD_vals (f g : Nat → Int) (k : Nat) : vals (sumD f g k) + sumC f g k * pw k = vl f k + vl g k := by
  induction k with
  | zero => rfl
  | succ k ih =>
    rw [sumD_succ, sumC_succ, vl_succ, vl_succ, pw_succ, vals_snoc, sumD_len]
    have e : f k + g k + sumC f g k = 65536 * ((f k + g k + sumC f g k) / 65536) + (f k + g k + sumC f g k) % 65536 := by omega
    generalize (f k + g k + sumC f g k) / 65536 = q at *
    generalize (f k + g k + sumC f g k) % 65536 = r at *
    generalize sumC f g k = c at *
    generalize vals (sumD f g k) = v at *
    generalize vl f k = a at *
    generalize vl g k = b at *
    generalize pw k = p at *
    have : a + b = v + c * p := by omega
    grind

theorem sumC_end (a b : List Int) (j : Nat) (ha : a.length ≤ j) (hb : b.length ≤ j) (hda : allD (dg a)) (hdb : allD (dg b)) : sumC (dg a) (dg b) (j + 1) = 0 := by
  rw [sumC_succ, dg_out a j ha, dg_out b j hb]
  have := sumC_bd hda hdb j
  omega
/-- The sum of two sizes, digit by digit, as far as there is one. -/
theorem sum_end (a b : List Int) (k : Nat) (ha : a.length ≤ k) (hb : b.length ≤ k) (hc : sumC (dg a) (dg b) k = 0) : vals (sumD (dg a) (dg b) k) = vals a + vals b := by
  have h := sumD_vals (dg a) (dg b) k
  rw [hc, vals_more a k ha, vals_more b k hb] at h
  omega

/-! ### A size less a smaller one -/
def difB (f g : Nat → Int) : Nat → Int
  | 0 => 0
  | k + 1 => 1 - (f k + 65536 - g k - difB f g k) / 65536
def difD (f g : Nat → Int) : Nat → List Int
  | 0 => []
  | k + 1 => difD f g k ++ [(f k + 65536 - g k - difB f g k) % 65536]
theorem difB_succ (f g : Nat → Int) (k : Nat) : difB f g (k + 1) = 1 - (f k + 65536 - g k - difB f g k) / 65536 := rfl
theorem difD_succ (f g : Nat → Int) (k : Nat) : difD f g (k + 1) = difD f g k ++ [(f k + 65536 - g k - difB f g k) % 65536] := rfl
theorem difB_bd {f g : Nat → Int} (hf : allD f) (hg : allD g) (k : Nat) : 0 ≤ difB f g k ∧ difB f g k ≤ 1 := by
  induction k with
  | zero => show (0 : Int) ≤ 0 ∧ (0 : Int) ≤ 1; omega
  | succ k ih => rw [difB_succ]; obtain ⟨a, b⟩ := hf k; obtain ⟨c, d⟩ := hg k; omega
theorem difD_len (f g : Nat → Int) (k : Nat) : (difD f g k).length = k := by
  induction k with
  | zero => rfl
  | succ k ih => rw [difD_succ, List.length_append, ih]; rfl
theorem difD_isD (f g : Nat → Int) (k : Nat) : ∀ d ∈ difD f g k, isD d := by
  induction k with
  | zero => intro d hd; cases hd
  | succ k ih =>
    rw [difD_succ]
    intro d hd
    rcases List.mem_append.1 hd with hd | hd
    · exact ih d hd
    · simp at hd; subst hd; unfold isD; omega
theorem difD_vals (f g : Nat → Int) (k : Nat) : vals (difD f g k) + vl g k = vl f k + difB f g k * pw k := by
  induction k with
  | zero => rfl
  | succ k ih =>
    rw [difD_succ, difB_succ, vl_succ, vl_succ, pw_succ, vals_snoc, difD_len]
    have e : f k + 65536 - g k - difB f g k = 65536 * ((f k + 65536 - g k - difB f g k) / 65536) + (f k + 65536 - g k - difB f g k) % 65536 := by omega
    generalize (f k + 65536 - g k - difB f g k) / 65536 = q at *
    generalize (f k + 65536 - g k - difB f g k) % 65536 = r at *
    generalize difB f g k = c at *
    generalize vals (difD f g k) = v at *
    generalize vl f k = a at *
    generalize vl g k = b at *
    generalize pw k = p at *
    have : v = a + c * p - b := by omega
    grind
theorem len_le {a b : List Int} (hda : allD (dg a)) (hdb : allD (dg b)) (hn : nrm b) (h : vals b ≤ vals a) : b.length ≤ a.length :=
  nrm_short hdb hn a.length (Int.lt_of_le_of_lt h (vl_bd hda a.length).2)
theorem dif_end {a b : List Int} (hda : allD (dg a)) (hdb : allD (dg b)) (hn : nrm b) (h : vals b ≤ vals a) : vals (difD (dg a) (dg b) a.length) = vals a - vals b := by
  have hl := len_le hda hdb hn h
  have e := difD_vals (dg a) (dg b) a.length
  rw [vals_more b a.length hl, vals_more a a.length (Nat.le_refl _)] at e
  have hb := difB_bd hda hdb a.length
  have hd := vl_bd (allD_of (difD_isD (dg a) (dg b) a.length)) (difD (dg a) (dg b) a.length).length
  have hv : vals (difD (dg a) (dg b) a.length) < pw a.length := by
    have := hd.2
    rw [difD_len] at this
    unfold vals; rw [difD_len]; exact this
  by_cases hz : difB (dg a) (dg b) a.length = 0
  · rw [hz] at e; omega
  · have h1 : difB (dg a) (dg b) a.length = 1 := by omega
    rw [h1] at e; omega

/-! ### Two sizes -/
theorem vl_cmp {f g : Nat → Int} (hf : allD f) (hg : allD g) (i : Nat) (hi : f i < g i) (j : Nat) (he : ∀ k, i < k → f k = g k) : vl f (i + 1 + j) < vl g (i + 1 + j) := by
  induction j with
  | zero =>
    show vl f (i + 1) < vl g (i + 1)
    rw [vl_succ, vl_succ]
    have h1 := (vl_bd hf i).2
    have h2 := (vl_bd hg i).1
    have hp := pw_pos i
    have h3 : (f i + 1) * pw i ≤ g i * pw i := Int.mul_le_mul_of_nonneg_right (by omega) (by omega)
    rw [Int.add_mul] at h3
    omega
  | succ j ih => rw [← Nat.add_assoc, vl_succ, vl_succ, he (i + 1 + j) (by omega)]; omega
theorem size_lt {a b : List Int} (hda : allD (dg a)) (hdb : allD (dg b)) (i : Nat) (hi : dg a i < dg b i) (he : ∀ k, i < k → dg a k = dg b k) : vals a < vals b := by
  have h := vl_cmp hda hdb i hi (max a.length b.length) he
  rw [vals_more a _ (by omega), vals_more b _ (by omega)] at h
  exact h
theorem size_eq {a b : List Int} (he : ∀ k, dg a k = dg b k) : vals a = vals b := by
  rw [← vals_more a (max a.length b.length) (by omega), ← vals_more b (max a.length b.length) (by omega)]
  exact vl_congr _ fun i _ => he i

/-! ### The digits of a number of 64 bits -/
def unsR (v : Int) : Nat → Int
  | 0 => v
  | k + 1 => unsR v k / 65536
def unsD (v : Int) : Nat → List Int
  | 0 => []
  | k + 1 => unsD v k ++ [unsR v k % 65536]
theorem unsR_succ (v : Int) (k : Nat) : unsR v (k + 1) = unsR v k / 65536 := rfl
theorem unsD_succ (v : Int) (k : Nat) : unsD v (k + 1) = unsD v k ++ [unsR v k % 65536] := rfl
theorem unsR_nonneg {v : Int} (h : 0 ≤ v) (k : Nat) : 0 ≤ unsR v k := by
  induction k with
  | zero => exact h
  | succ k ih => rw [unsR_succ]; omega
theorem unsR_le {v : Int} (h : 0 ≤ v) (k : Nat) : unsR v k ≤ v := by
  induction k with
  | zero => exact Int.le_refl _
  | succ k ih => rw [unsR_succ]; have := unsR_nonneg h k; omega
theorem unsD_len (v : Int) (k : Nat) : (unsD v k).length = k := by
  induction k with
  | zero => rfl
  | succ k ih => rw [unsD_succ, List.length_append, ih]; rfl
theorem unsD_isD (v : Int) (k : Nat) : ∀ d ∈ unsD v k, isD d := by
  induction k with
  | zero => intro d hd; cases hd
  | succ k ih =>
    rw [unsD_succ]
    intro d hd
    rcases List.mem_append.1 hd with hd | hd
    · exact ih d hd
    · simp at hd; subst hd; unfold isD; omega
theorem unsD_vals (v : Int) (k : Nat) : vals (unsD v k) + unsR v k * pw k = v := by
  induction k with
  | zero => show (0 : Int) + v * 1 = v; omega
  | succ k ih =>
    rw [unsD_succ, unsR_succ, pw_succ, vals_snoc, unsD_len]
    have e : unsR v k = 65536 * (unsR v k / 65536) + unsR v k % 65536 := by omega
    generalize unsR v k / 65536 = q at *
    generalize unsR v k % 65536 = r at *
    generalize vals (unsD v k) = x at *
    generalize pw k = p at *
    grind
theorem unsR_lt {v : Int} (h0 : 0 ≤ v) (h : v ≤ 18446744073709551615) (k : Nat) (hk : 0 < unsR v k) : k < 4 := by
  apply Nat.lt_of_not_le
  intro h4
  have e := unsD_vals v k
  have hd := (vl_bd (allD_of (unsD_isD v k)) (unsD v k).length).1
  have hm := pw_mono h4
  have : pw 4 = 18446744073709551616 := rfl
  have : 1 * pw k ≤ unsR v k * pw k := Int.mul_le_mul_of_nonneg_right (by omega) (by have := pw_pos k; omega)
  unfold vals at e
  omega
theorem unsR_mono {v : Int} (h0 : 0 ≤ v) (k : Nat) (hk : 0 < unsR v (k + 1)) : 0 < unsR v k := by
  rw [unsR_succ] at hk; have := unsR_nonneg h0 k; omega
theorem unsD_nrm {v : Int} (k : Nat) (hz : unsR v k = 0) (hp : ∀ j, j < k → 0 < unsR v j) : nrm (unsD v k) := by
  intro h
  rw [unsD_len] at *
  obtain ⟨j, rfl⟩ := Nat.exists_eq_succ_of_ne_zero h
  simp only [Nat.succ_eq_add_one, Nat.add_sub_cancel] at *
  rw [unsR_succ] at hz
  have := hp j (by omega)
  have e := dg_snoc_at (unsD v j) (unsR v j % 65536)
  rw [unsD_len] at e
  rw [unsD_succ, e]
  omega
end
end Go.Proofs.Ytljdnahomhbenaa
