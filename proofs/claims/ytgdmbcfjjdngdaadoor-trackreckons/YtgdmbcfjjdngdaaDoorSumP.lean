/- Plain facts on a sum that is carried with what it lost: what becomes of words that are alike, and of words that hold whole numbers; nothing of the program is in here. -/
import Derived.Test.YtgdmbcfjjdngdaaDoorExact
namespace Go.Proofs.YtgdmbcfjjdngdaaDoor
open Ieee

/-- What an operation on two words may answer. -/
def arR (op : BinOp) (a b r : Nat) : Prop := floatBits op .f64 a b = some r ∨ (floatBits op .f64 a b = none ∧ isN r ∧ r < 18446744073709551616)
/-- One word, or none that is a number both. -/
def sim (a b : Nat) : Prop := a = b ∨ (isN a ∧ isN b)
theorem arR_lt {op : BinOp} {a b r : Nat} (h : arR op a b r) : r < 18446744073709551616 := by
  rcases h with h | h
  · have := floatBits_wf h
    simpa [Lit.wf] using this
  · exact h.2.2
theorem bits_nan_l {a : Nat} (op : BinOp) (b : Nat) (h : isN a) : floatBits op .f64 a b = none := by
  obtain ⟨s, t, e⟩ := read_nan h
  have e' : FloatKind.f64.format.read a = .nan s t := e
  unfold floatBits
  split
  · unfold Format.add; rw [e']; rfl
  · unfold Format.sub; rw [e']; rfl
  · unfold Format.mul; rw [e']; rfl
  · unfold Format.div; rw [e']; rfl
  · rfl
theorem bits_nan_r {b : Nat} (op : BinOp) (a : Nat) (h : isN b) : floatBits op .f64 a b = none := by
  obtain ⟨s, t, e⟩ := read_nan h
  have e' : FloatKind.f64.format.read b = .nan s t := e
  unfold floatBits
  split
  · unfold Format.add; rw [e']; cases FloatKind.f64.format.read a <;> rfl
  · unfold Format.sub; rw [e']; cases FloatKind.f64.format.read a <;> rfl
  · unfold Format.mul; rw [e']; cases FloatKind.f64.format.read a <;> rfl
  · unfold Format.div; rw [e']; cases FloatKind.f64.format.read a <;> rfl
  · rfl
theorem arR_none {op : BinOp} {a b r : Nat} (h : arR op a b r) (h0 : floatBits op .f64 a b = none) : isN r := by
  rcases h with h | h
  · rw [h0] at h; cases h
  · exact h.2.1
theorem arR_some {op : BinOp} {a b r c : Nat} (h : arR op a b r) (h0 : floatBits op .f64 a b = some c) : r = c := by
  rcases h with h | h
  · rw [h0] at h; cases h; rfl
  · rw [h0] at h; cases h.1
theorem arR_sim {op : BinOp} {a b r a' b' r' : Nat} (h : arR op a b r) (h' : arR op a' b' r') (ha : sim a a') (hb : sim b b') : sim r r' := by
  rcases ha with rfl | ⟨n1, n2⟩
  · rcases hb with rfl | ⟨n1, n2⟩
    · cases e : floatBits op .f64 a b with
      | none => exact .inr ⟨arR_none h e, arR_none h' e⟩
      | some c => exact .inl ((arR_some h e).trans (arR_some h' e).symm)
    · exact .inr ⟨arR_none h (bits_nan_r _ _ n1), arR_none h' (bits_nan_r _ _ n2)⟩
  · exact .inr ⟨arR_none h (bits_nan_l _ _ n1), arR_none h' (bits_nan_l _ _ n2)⟩

/-- Whether a size is at least another's. -/
def big (s x : Nat) : Bool := double.order (s % 9223372036854775808) (x % 9223372036854775808) == some .gt || double.order (s % 9223372036854775808) (x % 9223372036854775808) == some .eq
theorem nan_mod {a : Nat} (h : isN a) : isN (a % 9223372036854775808) := by unfold isN at *; omega
theorem big_nan_l {s : Nat} (x : Nat) (h : isN s) : big s x = false := by unfold big; rw [order_nan_l _ (nan_mod h)]; rfl
theorem big_nan_r {x : Nat} (s : Nat) (h : isN x) : big s x = false := by unfold big; rw [order_nan_r _ (nan_mod h)]; rfl
theorem big_sim {s x s' x' : Nat} (hs : sim s s') (hx : sim x x') : big s x = big s' x' := by
  rcases hs with rfl | ⟨n1, n2⟩
  · rcases hx with rfl | ⟨n1, n2⟩
    · rfl
    · rw [big_nan_r _ n1, big_nan_r _ n2]
  · rw [big_nan_l _ n1, big_nan_l _ n2]
/-- A word without its sign, as a comparison and a difference give it. -/
def szR (x y : Nat) : Prop := if double.order x 0 == some .lt then arR .sub 0 x y else y = x
theorem szR_ok {x y : Nat} (hx : x < 18446744073709551616) (h : szR x y) : y < 18446744073709551616 ∧ (isN y ↔ isN x) ∧ (¬ isN x → key y = key (x % 9223372036854775808)) := by
  unfold szR at h
  have e0 := lt_key (a := x) (b := 0) hx (by decide)
  have n0 : ¬ isN 0 := by decide
  have k0 : key 0 = 0 := by rw [key_num n0]; decide
  rw [e0, k0] at h
  by_cases c : ¬ isN x ∧ ¬ isN 0 ∧ key x < 0
  · rw [if_pos (by simpa using c)] at h
    obtain ⟨nx, _, c⟩ := c
    rw [key_num nx] at c
    rcases inf_cases hx nx with f | rfl | rfl
    · have hc : 9223372036854775808 ≤ x := by
        apply Classical.byContradiction
        intro hc
        unfold sgI at c
        rw [if_pos (by omega)] at c
        omega
      have f0 : fin 0 := by unfold fin; omega
      have s0 : sgI 0 = 0 := by decide
      have sx : sgI x = -(valN (x % 9223372036854775808) : Int) := by rw [sgI_of f, if_pos (by simpa using hc)]
      obtain ⟨d, d1, d2, d3⟩ := sub_exact f0 f f.2 (by rw [s0, sx]; omega)
      rw [arR_some h d1]
      have hm : fin (x % 9223372036854775808) := ⟨by omega, by have := f.2; omega⟩
      refine ⟨d2.1, ⟨fun hh => absurd hh (fin_num d2), fun hh => absurd hh nx⟩, fun _ => ?_⟩
      rw [key_num (fin_num d2), key_num (fin_num hm), d3, s0, sx]
      unfold sgI
      rw [if_pos (by omega)]
      omega
    · rw [sgI_inf] at c; omega
    · have e : floatBits .sub .f64 0 18442240474082181120 = some 9218868437227405312 := by decide
      rw [arR_some h e]
      exact ⟨by decide, by decide, fun _ => rfl⟩
  · rw [if_neg (by simpa using c)] at h
    subst h
    refine ⟨hx, Iff.rfl, fun nx => ?_⟩
    have c' : ¬ key y < 0 := fun hc => c ⟨nx, n0, hc⟩
    rw [key_num nx] at c' ⊢
    by_cases hc : y < 9223372036854775808
    · rw [Nat.mod_eq_of_lt hc, key_num nx]
    · rcases inf_cases hx nx with f | rfl | rfl
      · have sx : sgI y = -(valN (y % 9223372036854775808) : Int) := by rw [sgI_of f, if_pos (by simp; omega)]
        rw [sx] at c'
        have hz : y % 9223372036854775808 = 0 := by
          rcases Nat.eq_zero_or_pos (y % 9223372036854775808) with h0 | h0
          · exact h0
          · have := valN_pos h0; omega
        rw [sx, hz, valN_zero, k0]; rfl
      · omega
      · exact absurd sgI_ninf (by have := valN_pos (r := 9218868437227405312) (by decide); omega)
theorem szR_big {s x y z : Nat} (hs : s < 18446744073709551616) (hx : x < 18446744073709551616) (h1 : szR s y) (h2 : szR x z) :
    (double.order y z == some .gt || double.order y z == some .eq) = big s x := by
  obtain ⟨a1, a2, a3⟩ := szR_ok hs h1
  obtain ⟨b1, b2, b3⟩ := szR_ok hx h2
  by_cases n1 : isN s
  · rw [big_nan_l _ n1, order_nan_l _ (a2.2 n1)]; rfl
  · by_cases n2 : isN x
    · rw [big_nan_r _ n2, order_nan_r _ (b2.2 n2)]; rfl
    · have m1 : ¬ isN (s % 9223372036854775808) := by unfold isN at *; omega
      have m2 : ¬ isN (x % 9223372036854775808) := by unfold isN at *; omega
      unfold big
      rw [gt_key a1 b1, eq_key a1 b1, gt_key (by omega) (by omega), eq_key (by omega) (by omega), a3 n1, b3 n2]
      simp only [a2, b2, n1, n2, m1, m2, not_false_eq_true, true_and]

/-- A step: what is carried, what was lost, one number more. -/
def stepR (s c x s' c' : Nat) : Prop := arR .add s x s' ∧ ∃ d e, (if big s x then arR .sub s s' d ∧ arR .add d x e else arR .sub x s' d ∧ arR .add d s e) ∧ arR .add c e c'
/-- Behind k numbers. -/
def stR (l : List Nat) : Nat → Nat → Nat → Prop
  | 0, s, c => s = 0 ∧ c = 0
  | k + 1, s, c => ∃ s0 c0, stR l k s0 c0 ∧ stepR s0 c0 (l.getD k 0) s c
def sumR (l : List Nat) (r : Nat) : Prop := ∃ s c, stR l l.length s c ∧ arR .add s c r
theorem stepR_sim {s c x s1 c1 s' c' x' s1' c1' : Nat} (h : stepR s c x s1 c1) (h' : stepR s' c' x' s1' c1') (hs : sim s s') (hc : sim c c') (hx : sim x x') : sim s1 s1' ∧ sim c1 c1' := by
  obtain ⟨a, d, e, b, g⟩ := h
  obtain ⟨a', d', e', b', g'⟩ := h'
  have hs1 := arR_sim a a' hs hx
  refine ⟨hs1, arR_sim g g' hc ?_⟩
  rw [← big_sim hs hx] at b'
  cases hb : big s x with
  | true =>
    rw [hb, if_pos rfl] at b b'
    exact arR_sim b.2 b'.2 (arR_sim b.1 b'.1 hs hs1) hx
  | false =>
    rw [hb, if_neg (by decide)] at b b'
    exact arR_sim b.2 b'.2 (arR_sim b.1 b'.1 hx hs1) hs
theorem stR_sim {l l' : List Nat} (hl : ∀ k, sim (l.getD k 0) (l'.getD k 0)) : ∀ k {s c s' c' : Nat}, stR l k s c → stR l' k s' c' → sim s s' ∧ sim c c'
  | 0, _, _, _, _, h, h' => by
    obtain ⟨rfl, rfl⟩ := h
    obtain ⟨rfl, rfl⟩ := h'
    exact ⟨.inl rfl, .inl rfl⟩
  | k + 1, _, _, _, _, h, h' => by
    obtain ⟨s0, c0, h1, h2⟩ := h
    obtain ⟨s0', c0', h1', h2'⟩ := h'
    obtain ⟨i1, i2⟩ := stR_sim hl k h1 h1'
    exact stepR_sim h2 h2' i1 i2 (hl k)
theorem sumR_sim {l l' : List Nat} (hn : l.length = l'.length) (hl : ∀ k, sim (l.getD k 0) (l'.getD k 0)) {r r' : Nat} (h : sumR l r) (h' : sumR l' r') : sim r r' := by
  obtain ⟨s, c, h1, h2⟩ := h
  obtain ⟨s', c', h1', h2'⟩ := h'
  rw [← hn] at h1'
  obtain ⟨i1, i2⟩ := stR_sim hl _ h1 h1'
  exact arR_sim h2 h2' i1 i2
theorem sumR_lt {l : List Nat} {r : Nat} (h : sumR l r) : r < 18446744073709551616 := by
  obtain ⟨_, _, _, h⟩ := h
  exact arR_lt h
theorem stR_lt {l : List Nat} : ∀ {k s c : Nat}, stR l k s c → s < 18446744073709551616 ∧ c < 18446744073709551616
  | 0, _, _, h => by obtain ⟨rfl, rfl⟩ := h; decide
  | k + 1, _, _, h => by
    obtain ⟨s0, c0, h1, h2, d, e, _, h3⟩ := h
    exact ⟨arR_lt h2, arR_lt h3⟩
/-- What two that are alike show. -/
theorem sim_self (a : Nat) : sim a a := .inl rfl
theorem sim_alike {a b : Nat} (ha : a < 18446744073709551616) (h : sim a b) :
    double.order a b = some .eq ∨ ((double.order a b == some .eq) = false ∧ (double.order a a == some .eq) = false ∧ (double.order b b == some .eq) = false) := by
  by_cases n : isN a
  · refine .inr ⟨by rw [order_nan_l _ n]; rfl, by rw [order_nan_l _ n]; rfl, ?_⟩
    rcases h with rfl | ⟨_, n2⟩
    · rw [order_nan_l _ n]; rfl
    · rw [order_nan_l _ n2]; rfl
  · rcases h with rfl | ⟨n2, _⟩
    · rw [order_num ha ha n n, cmp_eq rfl]; exact .inl rfl
    · exact absurd n2 n

/-! ### Whole numbers -/
/-- The sum of the first k, and of their sizes. -/
def psum (z : List Int) : Nat → Int
  | 0 => 0
  | k + 1 => psum z k + z.getD k 0
def pabs (z : List Int) : Nat → Nat
  | 0 => 0
  | k + 1 => pabs z k + (z.getD k 0).natAbs
theorem psum_le (z : List Int) : ∀ k, (psum z k).natAbs ≤ pabs z k
  | 0 => Nat.le_refl _
  | k + 1 => by have := psum_le z k; unfold psum pabs; omega
theorem pabs_mono (z : List Int) : ∀ k, pabs z k ≤ pabs z (k + 1)
  | k => by show pabs z k ≤ pabs z k + _; omega
theorem stepR_whole {s c x s' c' : Nat} {m n : Int} (h : stepR s c x s' c') (hs : Fl s m) (hc : Fl c 0) (hx : Fl x n) (hm : m.natAbs + n.natAbs ≤ 9007199254740992) : Fl s' (m + n) ∧ Fl c' 0 := by
  obtain ⟨a, d, e, b, g⟩ := h
  obtain ⟨t, t1, t2⟩ := hs.add hx (by omega)
  obtain rfl := arR_some a t1
  refine ⟨t2, ?_⟩
  have he : Fl e 0 := by
    cases hb : big s x with
    | true =>
      rw [hb, if_pos rfl] at b
      obtain ⟨u, u1, u2⟩ := hs.sub t2 (by omega)
      obtain rfl := arR_some b.1 u1
      obtain ⟨v, v1, v2⟩ := u2.add hx (by omega)
      obtain rfl := arR_some b.2 v1
      rw [show m - (m + n) + n = 0 from by omega] at v2
      exact v2
    | false =>
      rw [hb, if_neg (by decide)] at b
      obtain ⟨u, u1, u2⟩ := hx.sub t2 (by omega)
      obtain rfl := arR_some b.1 u1
      obtain ⟨v, v1, v2⟩ := u2.add hs (by omega)
      obtain rfl := arR_some b.2 v1
      rw [show n - (m + n) + m = 0 from by omega] at v2
      exact v2
  obtain ⟨u, u1, u2⟩ := hc.add he (by decide)
  obtain rfl := arR_some g u1
  exact u2
theorem Fl.zero : Fl 0 0 := ⟨by unfold fin; omega, by rw [Int.zero_mul]; decide⟩
theorem stR_whole {l : List Nat} {z : List Int} (hz : ∀ k, k < l.length → Fl (l.getD k 0) (z.getD k 0)) : ∀ {k s c : Nat}, k ≤ l.length → pabs z k ≤ 9007199254740992 → stR l k s c → Fl s (psum z k) ∧ Fl c 0
  | 0, _, _, _, _, h => by
    obtain ⟨rfl, rfl⟩ := h
    exact ⟨Fl.zero, Fl.zero⟩
  | k + 1, _, _, hk, hp, h => by
    obtain ⟨s0, c0, h1, h2⟩ := h
    have hm := pabs_mono z k
    obtain ⟨i1, i2⟩ := stR_whole hz (k := k) (by omega) (by omega) h1
    have hb := psum_le z k
    have hp' : pabs z k + (z.getD k 0).natAbs ≤ 9007199254740992 := hp
    exact stepR_whole h2 i1 i2 (hz k (by omega)) (by omega)
theorem sumR_whole {l : List Nat} {z : List Int} {r : Nat} (hz : ∀ k, k < l.length → Fl (l.getD k 0) (z.getD k 0)) (hp : pabs z l.length ≤ 9007199254740992) (h : sumR l r) : Fl r (psum z l.length) := by
  obtain ⟨s, c, h1, h2⟩ := h
  obtain ⟨i1, i2⟩ := stR_whole hz (Nat.le_refl _) hp h1
  have := psum_le z l.length
  obtain ⟨t, t1, t2⟩ := i1.add i2 (by omega)
  obtain rfl := arR_some h2 t1
  rw [Int.add_zero] at t2
  exact t2
end Go.Proofs.YtgdmbcfjjdngdaaDoor
