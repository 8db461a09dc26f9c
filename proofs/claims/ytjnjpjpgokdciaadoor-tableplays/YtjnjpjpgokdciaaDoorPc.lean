/- How many bits of a word are set: the library's sums of neighbours, in plain words. -/
import Derived.Test.YtjnjpjpgokdciaaDoorBf
set_option linter.unusedSimpArgs false
set_option linter.unusedVariables false
namespace Go.Proofs.YtjnjpjpgokdciaaDoor

/-- How many of the first n are true. -/
def cnt (f : Nat → Bool) : Nat → Nat
  | 0 => 0
  | n + 1 => cnt f n + (f n).toNat
theorem cnt_add (f : Nat → Bool) (a : Nat) : ∀ m, cnt f (a + m) = cnt f a + cnt (fun i => f (a + i)) m
  | 0 => rfl
  | m + 1 => by rw [← Nat.add_assoc]; simp only [cnt]; rw [cnt_add f a m]; omega
theorem cnt_congr {f g : Nat → Bool} : ∀ {n : Nat}, (∀ i, i < n → f i = g i) → cnt f n = cnt g n
  | 0, _ => rfl
  | n + 1, h => by simp only [cnt]; rw [cnt_congr (fun i hi => h i (by omega)), h n (by omega)]
theorem cnt_le (f : Nat → Bool) : ∀ n, cnt f n ≤ n
  | 0 => Nat.le_refl _
  | n + 1 => by have := cnt_le f n; have h2 : (f n).toNat ≤ 1 := by cases f n <;> decide
                simp only [cnt]; omega
theorem cnt_zero {f : Nat → Bool} : ∀ {n : Nat}, (∀ i, i < n → f i = false) → cnt f n = 0
  | 0, _ => rfl
  | n + 1, h => by simp only [cnt]; rw [cnt_zero (fun i hi => h i (by omega)), h n (by omega)]; rfl
/-- A number by its bytes, the least ahead. -/
def dg : List Nat → Nat
  | [] => 0
  | b :: r => dg r * 256 + b
def mk8 (c : Nat) : Nat → Nat
  | 0 => 0
  | n + 1 => mk8 c n * 256 + c
theorem and_split (h l M m : Nat) (hl : l < 256) (hm : m < 256) : (h * 256 + l) &&& (M * 256 + m) = (h &&& M) * 256 + (l &&& m) := by
  have h1 : ((h * 256 + l) &&& (M * 256 + m)) / 2 ^ 8 = (h * 256 + l) / 2 ^ 8 &&& (M * 256 + m) / 2 ^ 8 := Nat.and_div_two_pow
  have h2 : ((h * 256 + l) &&& (M * 256 + m)) % 2 ^ 8 = (h * 256 + l) % 2 ^ 8 &&& (M * 256 + m) % 2 ^ 8 := Nat.and_mod_two_pow
  have e : (2 : Nat) ^ 8 = 256 := by decide
  rw [e] at h1 h2
  rw [show (h * 256 + l) / 256 = h by omega, show (M * 256 + m) / 256 = M by omega] at h1
  rw [show (h * 256 + l) % 256 = l by omega, show (M * 256 + m) % 256 = m by omega] at h2
  omega
def g1 (b : Nat) : Nat := (b / 2 &&& 85) + (b &&& 85)
def g2 (b : Nat) : Nat := (b / 4 &&& 51) + (b &&& 51)
def g3 (b : Nat) : Nat := (b / 16 + b) &&& 15
theorem b1 : ∀ b, b < 256 → ∀ c, c < 2 → (b / 2 + 128 * c) &&& 85 = b / 2 &&& 85 := by decide +kernel
theorem b2 : ∀ b, b < 256 → ∀ c, c < 4 → (b / 4 + 64 * c) &&& 51 = b / 4 &&& 51 := by decide +kernel
theorem b3 : ∀ b, b < 256 → ∀ c, c < 5 → b % 16 ≤ 4 → b / 16 ≤ 4 → (b / 16 + b + 16 * c) &&& 15 = (b / 16 + b) &&& 15 := by decide +kernel
theorem step1 : ∀ l : List Nat, (∀ b ∈ l, b < 256) → (dg l / 2 &&& mk8 85 l.length) + (dg l &&& mk8 85 l.length) = dg (l.map g1)
  | [], _ => by simp [dg, mk8]
  | b :: r, h => by
    have hb := h b (List.mem_cons_self ..)
    have ih := step1 r (fun x hx => h x (List.mem_cons_of_mem _ hx))
    simp only [dg, List.length_cons, mk8, List.map_cons]
    rw [show (dg r * 256 + b) / 2 = (dg r / 2) * 256 + (b / 2 + 128 * (dg r % 2)) by omega, and_split _ _ _ _ (by omega) (by omega), and_split _ _ _ _ hb (by omega), b1 b hb _ (by omega), ← ih]
    unfold g1
    omega
theorem step2 : ∀ l : List Nat, (∀ b ∈ l, b < 256) → (dg l / 4 &&& mk8 51 l.length) + (dg l &&& mk8 51 l.length) = dg (l.map g2)
  | [], _ => by simp [dg, mk8]
  | b :: r, h => by
    have hb := h b (List.mem_cons_self ..)
    have ih := step2 r (fun x hx => h x (List.mem_cons_of_mem _ hx))
    simp only [dg, List.length_cons, mk8, List.map_cons]
    rw [show (dg r * 256 + b) / 4 = (dg r / 4) * 256 + (b / 4 + 64 * (dg r % 4)) by omega, and_split _ _ _ _ (by omega) (by omega), and_split _ _ _ _ hb (by omega), b2 b hb _ (by omega), ← ih]
    unfold g2
    omega
theorem dg_mod : ∀ l : List Nat, (∀ b ∈ l, b % 16 ≤ 4) → dg l % 16 ≤ 4
  | [], _ => by simp [dg]
  | b :: r, h => by have := h b (List.mem_cons_self ..); simp only [dg]; omega
theorem step3 : ∀ l : List Nat, (∀ b ∈ l, b < 256 ∧ b % 16 ≤ 4 ∧ b / 16 ≤ 4) → ((dg l / 16 + dg l) &&& mk8 15 l.length) = dg (l.map g3)
  | [], _ => by simp [dg, mk8]
  | b :: r, h => by
    obtain ⟨hb, hm, hq⟩ := h b (List.mem_cons_self ..)
    have ih := step3 r (fun x hx => h x (List.mem_cons_of_mem _ hx))
    have hr := dg_mod r (fun x hx => (h x (List.mem_cons_of_mem _ hx)).2.1)
    simp only [dg, List.length_cons, mk8, List.map_cons]
    rw [show (dg r * 256 + b) / 16 + (dg r * 256 + b) = (dg r / 16 + dg r) * 256 + (b / 16 + b + 16 * (dg r % 16)) by omega, and_split _ _ _ _ (by omega) (by omega), b3 b hb _ (by omega) hm hq, ih]
    rfl
theorem g1_lt : ∀ b, b < 256 → g1 b < 256 := by decide +kernel
theorem g12 : ∀ b, b < 256 → g2 (g1 b) < 256 ∧ g2 (g1 b) % 16 ≤ 4 ∧ g2 (g1 b) / 16 ≤ 4 := by decide +kernel
theorem g123 : ∀ b, b < 256 → g3 (g2 (g1 b)) = cnt (fun j => b.testBit j) 8 := by decide +kernel
theorem g123_le (b : Nat) (h : b < 256) : g3 (g2 (g1 b)) ≤ 8 := by rw [g123 b h]; exact cnt_le _ 8
theorem cnt_dg : ∀ l : List Nat, (∀ b ∈ l, b < 256) → cnt (fun j => (dg l).testBit j) (8 * l.length) = (l.map fun b => g3 (g2 (g1 b))).sum
  | [], _ => rfl
  | b :: r, h => by
    have hb := h b (List.mem_cons_self ..)
    have ih := cnt_dg r (fun x hx => h x (List.mem_cons_of_mem _ hx))
    have e : ∀ j, (dg (b :: r)).testBit j = if j < 8 then b.testBit j else (dg r).testBit (j - 8) := fun j => by
      have := Nat.testBit_two_pow_mul_add (i := 8) (dg r) (b := b) (by omega) j
      rw [← this]
      congr 1
      simp only [dg]
      omega
    rw [List.length_cons, show 8 * (r.length + 1) = 8 + 8 * r.length by omega, cnt_add, List.map_cons, List.sum_cons, ← ih, g123 b hb]
    congr 1
    · exact cnt_congr (fun i hi => by rw [e, if_pos hi])
    · exact cnt_congr (fun i hi => by rw [e, if_neg (by omega)]; congr 1; omega)
/-- The bytes of a word. -/
def by8 (x : Nat) : List Nat := [x % 256, x / 256 % 256, x / 65536 % 256, x / 16777216 % 256, x / 4294967296 % 256, x / 1099511627776 % 256, x / 281474976710656 % 256, x / 72057594037927936 % 256]
theorem dg_by8 (x : Nat) (h : x < 18446744073709551616) : dg (by8 x) = x := by
  simp only [by8, dg]
  omega
theorem by8_lt (x : Nat) : ∀ b ∈ by8 x, b < 256 := by
  intro b hb
  simp only [by8, List.mem_cons, List.not_mem_nil, or_false] at hb
  omega
/-- What the library's steps make of a word. -/
def o1 (x : Nat) : Nat := (x / 2 &&& 6148914691236517205) + (x &&& 6148914691236517205)
def o2 (x : Nat) : Nat := (x / 4 &&& 3689348814741910323) + (x &&& 3689348814741910323)
def o3 (x : Nat) : Nat := (x / 16 + x) &&& 1085102592571150095
theorem m85 : mk8 85 8 = 6148914691236517205 := by decide
theorem m51 : mk8 51 8 = 3689348814741910323 := by decide
theorem m15 : mk8 15 8 = 1085102592571150095 := by decide
theorem o123 (x : Nat) (h : x < 18446744073709551616) : o1 x = dg ((by8 x).map g1) ∧ o2 (o1 x) = dg (((by8 x).map g1).map g2) ∧ o3 (o2 (o1 x)) = dg ((((by8 x).map g1).map g2).map g3) := by
  have e1 : o1 x = dg ((by8 x).map g1) := by
    have := step1 (by8 x) (by8_lt x)
    rw [dg_by8 x h, show (by8 x).length = 8 from rfl, m85] at this
    exact this
  have h2 : ∀ b ∈ (by8 x).map g1, b < 256 := fun b hb => by
    obtain ⟨c, hc, rfl⟩ := List.mem_map.1 hb
    exact g1_lt c (by8_lt x c hc)
  have e2 : o2 (o1 x) = dg (((by8 x).map g1).map g2) := by
    have := step2 _ h2
    rw [← e1, show ((by8 x).map g1).length = 8 from rfl, m51] at this
    exact this
  refine ⟨e1, e2, ?_⟩
  have := step3 (((by8 x).map g1).map g2) (fun b hb => by
    obtain ⟨c, hc, rfl⟩ := List.mem_map.1 hb
    obtain ⟨d, hd, rfl⟩ := List.mem_map.1 hc
    exact g12 d (by8_lt x d hd))
  rw [← e2, show (((by8 x).map g1).map g2).length = 8 from rfl, m15] at this
  exact this
/-- The sums of neighbours: at the end the least byte is the sum of all. -/
theorem add_up (x : Nat) (h : x < 18446744073709551616) : ∃ y, o3 (o2 (o1 x)) = y ∧ y ≤ 578721382704613384 ∧ y + y / 256 ≤ 1157442765409226768 ∧ (y + y / 256) + (y + y / 256) / 65536 ≤ 2314885530818453536 ∧
    ((y + y / 256) + (y + y / 256) / 65536) + ((y + y / 256) + (y + y / 256) / 65536) / 4294967296 ≤ 4629771061636907072 ∧
    (((y + y / 256) + (y + y / 256) / 65536) + ((y + y / 256) + (y + y / 256) / 65536) / 4294967296) % 128 = cnt (fun j => x.testBit j) 64 := by
  obtain ⟨_, _, e3⟩ := o123 x h
  have hc := cnt_dg (by8 x) (by8_lt x)
  rw [dg_by8 x h, show 8 * (by8 x).length = 64 by rfl] at hc
  rw [e3, hc]
  have hb := by8_lt x
  refine ⟨_, rfl, ?_⟩
  simp only [by8, List.map_cons, List.map_nil, dg, List.sum_cons, List.sum_nil]
  simp only [by8, List.mem_cons, List.not_mem_nil, or_false, forall_eq_or_imp, forall_eq] at hb
  obtain ⟨h0, h1, h2, h3, h4, h5, h6, h7⟩ := hb
  have k0 := g123_le _ h0
  have k1 := g123_le _ h1
  have k2 := g123_le _ h2
  have k3 := g123_le _ h3
  have k4 := g123_le _ h4
  have k5 := g123_le _ h5
  have k6 := g123_le _ h6
  have k7 := g123_le _ h7
  generalize g3 (g2 (g1 (x % 256))) = c0 at *
  generalize g3 (g2 (g1 (x / 256 % 256))) = c1 at *
  generalize g3 (g2 (g1 (x / 65536 % 256))) = c2 at *
  generalize g3 (g2 (g1 (x / 16777216 % 256))) = c3 at *
  generalize g3 (g2 (g1 (x / 4294967296 % 256))) = c4 at *
  generalize g3 (g2 (g1 (x / 1099511627776 % 256))) = c5 at *
  generalize g3 (g2 (g1 (x / 281474976710656 % 256))) = c6 at *
  generalize g3 (g2 (g1 (x / 72057594037927936 % 256))) = c7 at *
  clear h h0 h1 h2 h3 h4 h5 h6 h7 e3 hc
  have d1 : (((((((((0 * 256 + c7) * 256 + c6) * 256 + c5) * 256 + c4) * 256 + c3) * 256 + c2) * 256 + c1) * 256 + c0)) / 256 = ((((((0 * 256 + c7) * 256 + c6) * 256 + c5) * 256 + c4) * 256 + c3) * 256 + c2) * 256 + c1 := by omega
  rw [d1]
  clear d1
  refine ⟨by omega, by omega, ?_⟩
  have d2 : ((((((((0 * 256 + c7) * 256 + c6) * 256 + c5) * 256 + c4) * 256 + c3) * 256 + c2) * 256 + c1) * 256 + c0 + (((((((0 * 256 + c7) * 256 + c6) * 256 + c5) * 256 + c4) * 256 + c3) * 256 + c2) * 256 + c1)) / 65536 = ((((c7 * 256 + (c6 + c7)) * 256 + (c5 + c6)) * 256 + (c4 + c5)) * 256 + (c3 + c4)) * 256 + (c2 + c3) := by omega
  rw [d2]
  clear d2
  refine ⟨by omega, ?_⟩
  have d3 : ((((((((0 * 256 + c7) * 256 + c6) * 256 + c5) * 256 + c4) * 256 + c3) * 256 + c2) * 256 + c1) * 256 + c0 + (((((((0 * 256 + c7) * 256 + c6) * 256 + c5) * 256 + c4) * 256 + c3) * 256 + c2) * 256 + c1) + (((((c7 * 256 + (c6 + c7)) * 256 + (c5 + c6)) * 256 + (c4 + c5)) * 256 + (c3 + c4)) * 256 + (c2 + c3))) / 4294967296 = (((c7 * 256 + (c6 + c7)) * 256 + (c5 + c6 + c7)) * 256 + (c4 + c5 + c6 + c7)) := by omega
  rw [d3]
  clear d3
  omega
end Go.Proofs.YtjnjpjpgokdciaaDoor
