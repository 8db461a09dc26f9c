/- A ring told from another point on, backwards, shifted: plain. -/
import Derived.Test.YtpdhknclhpifkabCv
import Derived.Test.YtpdhknclhpifkabTurnsP
namespace Go.Proofs.Ytpdhknclhpifkab

def sumN (h : Nat → Int) : Nat → Int
  | 0 => 0
  | n + 1 => sumN h n + h n
theorem sumN_congr {h g : Nat → Int} : ∀ {n : Nat}, (∀ i, i < n → h i = g i) → sumN h n = sumN g n
  | 0, _ => rfl
  | n + 1, e => by rw [sumN, sumN, sumN_congr (fun i hi => e i (by omega)), e n (by omega)]
theorem sumN_head (h : Nat → Int) : ∀ n, sumN h (n + 1) = h 0 + sumN (fun i => h (i + 1)) n
  | 0 => by simp [sumN]
  | n + 1 => by rw [sumN, sumN_head h n, sumN]; omega
theorem sumN_neg (h : Nat → Int) : ∀ n, sumN (fun i => -h i) n = -sumN h n
  | 0 => rfl
  | n + 1 => by rw [sumN, sumN, sumN_neg h n]; omega
theorem sumN_rev (h : Nat → Int) : ∀ n, sumN (fun m => h (n - 1 - m)) n = sumN h n
  | 0 => rfl
  | n + 1 => by
    rw [sumN_head h n, sumN, ← sumN_rev (fun i => h (i + 1)) n]
    have : sumN (fun m => h (n + 1 - 1 - m)) n = sumN (fun m => h (n - 1 - m + 1)) n := sumN_congr (fun i hi => by congr 1; omega)
    rw [this]
    have e : n + 1 - 1 - n = 0 := by omega
    rw [e]
    omega
theorem sumN_per {G : Nat → Int} {n : Nat} (hp : ∀ j, G (j + n) = G j) : ∀ R, sumN (fun i => G (R + i)) n = sumN G n
  | 0 => sumN_congr (fun i _ => by rw [Nat.zero_add])
  | R + 1 => by
    have h1 := sumN_head (fun i => G (R + i)) n
    have h2 : sumN (fun i => G (R + i)) (n + 1) = sumN (fun i => G (R + i)) n + G (R + n) := rfl
    have h3 : sumN (fun i => G (R + (i + 1))) n = sumN (fun i => G (R + 1 + i)) n := sumN_congr (fun i _ => by congr 1; omega)
    have h4 := hp R
    have h5 := sumN_per hp R
    simp only [Nat.add_zero] at h1
    omega
theorem sumZ_N (f : Int × Int → Int × Int → Int) (L : List (Int × Int)) : ∀ k, sumZ f L k = sumN (fun i => f (pAt L i) (pAt L (i + 1))) k
  | 0 => rfl
  | k + 1 => by rw [sumZ_succ, sumZ_N f L k]; rfl
theorem pAt_per (L : List (Int × Int)) (j : Nat) : pAt L (j + L.length) = pAt L j := by unfold pAt; rw [Nat.add_mod_right]

/-- The list from its R-th point on. -/
def rotL (L : List (Int × Int)) (R : Nat) (back : Bool) : List (Int × Int) := (List.range L.length).map fun i => L.getD (if back then L.length - 1 - (R + i) % L.length else (R + i) % L.length) (0, 0)
theorem rotL_len (L : List (Int × Int)) (R : Nat) (back : Bool) : (rotL L R back).length = L.length := by simp [rotL]
theorem rot_at (L : List (Int × Int)) (R i : Nat) (h : 0 < L.length) : pAt (rotL L R false) i = pAt L (R + i) := by
  unfold pAt
  rw [rotL_len]
  have hi : i % L.length < L.length := Nat.mod_lt _ h
  simp only [rotL, List.getD_eq_getElem?_getD, List.getElem?_map, List.getElem?_range hi, Option.map_some, Option.getD_some, Bool.false_eq_true, if_false]
  congr 2
  rw [Nat.add_mod_mod]
theorem back_at (L : List (Int × Int)) (R i : Nat) (h : 0 < L.length) : pAt (rotL L R true) i = pAt L (L.length - 1 - (R + i) % L.length) := by
  unfold pAt
  rw [rotL_len]
  have hi : i % L.length < L.length := Nat.mod_lt _ h
  simp only [rotL, List.getD_eq_getElem?_getD, List.getElem?_map, List.getElem?_range hi, Option.map_some, Option.getD_some, if_true]
  rw [Nat.add_mod_mod, Nat.mod_eq_of_lt (show L.length - 1 - (R + i) % L.length < L.length by omega)]

theorem rot_sum (f : Int × Int → Int × Int → Int) (L : List (Int × Int)) (R : Nat) : sumZ f (rotL L R false) L.length = sumZ f L L.length := by
  by_cases h : 0 < L.length
  · rw [sumZ_N, sumZ_N, ← sumN_per (G := fun i => f (pAt L i) (pAt L (i + 1))) (fun j => by rw [pAt_per, show j + L.length + 1 = j + 1 + L.length by omega, pAt_per]) R]
    exact sumN_congr (fun i _ => by rw [rot_at L R i h, rot_at L R (i + 1) h, Nat.add_assoc])
  · have : L.length = 0 := by omega
    rw [this]; rfl
theorem back_sum {f : Int × Int → Int × Int → Int} (s : Int) (hf : ∀ a b, f b a = s * f a b) (L : List (Int × Int)) (R : Nat) : sumZ f (rotL L R true) L.length = s * sumZ f L L.length := by
  by_cases h : 0 < L.length
  · have hper : ∀ j, (fun i => f (pAt L i) (pAt L (i + 1))) (j + L.length) = (fun i => f (pAt L i) (pAt L (i + 1))) j := fun j => by
      show f _ _ = f _ _
      rw [pAt_per, show j + L.length + 1 = j + 1 + L.length by omega, pAt_per]
    -- the i-th side backwards is the side (2n - 2 - (R + i) % n), its ends changed about
    have key : ∀ i, f (pAt (rotL L R true) i) (pAt (rotL L R true) (i + 1)) = s * (fun j => f (pAt L j) (pAt L (j + 1))) (2 * L.length - 2 - (R + i) % L.length) := fun i => by
      rw [back_at L R i h, back_at L R (i + 1) h, hf]
      have hm : (R + i) % L.length < L.length := Nat.mod_lt _ h
      show s * f _ _ = s * f _ _
      congr 1
      by_cases hl : (R + i) % L.length + 1 < L.length
      · have e1 : (R + (i + 1)) % L.length = (R + i) % L.length + 1 := by
          rw [← Nat.add_assoc, Nat.add_mod, Nat.mod_eq_of_lt (show 1 < L.length by omega), Nat.mod_eq_of_lt hl]
        rw [e1]
        have e2 : 2 * L.length - 2 - (R + i) % L.length = (L.length - 1 - ((R + i) % L.length + 1)) + L.length := by omega
        have e3 : 2 * L.length - 2 - (R + i) % L.length + 1 = (L.length - 1 - (R + i) % L.length) + L.length := by omega
        rw [e3, e2, pAt_per, pAt_per]
      · have e0 : (R + i) % L.length = L.length - 1 := by omega
        have e1 : (R + (i + 1)) % L.length = 0 := by
          rw [← Nat.add_assoc, Nat.add_mod, e0]
          by_cases h1 : L.length = 1
          · rw [h1]
          · rw [Nat.mod_eq_of_lt (show 1 < L.length by omega), show L.length - 1 + 1 = L.length by omega, Nat.mod_self]
        rw [e1, e0]
        have e2 : 2 * L.length - 2 - (L.length - 1) = L.length - 1 - 0 := by omega
        have e3 : 2 * L.length - 2 - (L.length - 1) + 1 = (L.length - 1 - (L.length - 1)) + L.length := by omega
        rw [e3, e2, pAt_per]
    rw [sumZ_N, sumZ_N, sumN_congr (fun i _ => key i)]
    have h1 : ∀ (g : Nat → Int) n, sumN (fun i => s * g i) n = s * sumN g n := fun g n => by
      induction n with
      | zero => simp [sumN]
      | succ n ih => rw [sumN, sumN, ih, Int.mul_add]
    rw [h1 (fun i => (fun j => f (pAt L j) (pAt L (j + 1))) (2 * L.length - 2 - (R + i) % L.length))]
    congr 1
    -- R away
    have h2 := sumN_per (G := fun m => (fun j => f (pAt L j) (pAt L (j + 1))) (2 * L.length - 2 - m % L.length)) (n := L.length) (fun j => by show f _ _ = f _ _; rw [Nat.add_mod_right]) R
    rw [h2]
    have h3 : sumN (fun m => (fun j => f (pAt L j) (pAt L (j + 1))) (2 * L.length - 2 - m % L.length)) L.length = sumN (fun m => (fun k => (fun j => f (pAt L j) (pAt L (j + 1))) (L.length - 1 + k)) (L.length - 1 - m)) L.length :=
      sumN_congr (fun m hm => by
        show f _ _ = f _ _
        rw [Nat.mod_eq_of_lt hm, show 2 * L.length - 2 - m = L.length - 1 + (L.length - 1 - m) by omega])
    rw [h3, sumN_rev (fun k => (fun j => f (pAt L j) (pAt L (j + 1))) (L.length - 1 + k)) L.length]
    exact sumN_per (G := fun j => f (pAt L j) (pAt L (j + 1))) hper (L.length - 1)
  · have : L.length = 0 := by omega
    rw [this]; simp [sumZ]

/-! ### The sides changed about, and shifted -/
def onI (p a b : Int × Int) : Int := if onP p a b then 1 else 0
theorem edge_sum (L : List (Int × Int)) (p : Int × Int) : edgeL L p = decide (0 < sumZ (onI p) L L.length) := by
  have key : ∀ k, ((List.range k).any fun i => onP p (pAt L i) (pAt L (i + 1))) = decide (0 < sumZ (onI p) L k) ∧ 0 ≤ sumZ (onI p) L k := by
    intro k
    induction k with
    | zero => exact ⟨rfl, Int.le_refl _⟩
    | succ k ih =>
      rw [List.range_succ, List.any_append, sumZ_succ, ih.1]
      simp only [List.any_cons, List.any_nil, Bool.or_false]
      have := ih.2
      by_cases hq : onP p (pAt L k) (pAt L (k + 1)) = true
      · have ev : onI p (pAt L k) (pAt L (k + 1)) = 1 := by unfold onI; simp [hq]
        rw [ev, hq]
        simp
        omega
      · rw [Bool.not_eq_true] at hq
        have ev : onI p (pAt L k) (pAt L (k + 1)) = 0 := by unfold onI; simp [hq]
        rw [ev, hq]
        simp
        omega
  exact (key L.length).1
theorem turnP_back (a b p : Int × Int) : turnP b a p = -turnP a b p := by
  unfold turnP
  rw [turn_cyc p.1 p.2 b.1 b.2 a.1 a.2, turn_back p.1 p.2 a.1 a.2 b.1 b.2, turn_cyc p.1 p.2 a.1 a.2 b.1 b.2]
theorem past_back (p a b : Int × Int) : pastI p b a = -1 * pastI p a b := by
  unfold pastI
  rw [turnP_back a b p]
  rcases turnP_cases a b p with h | h | h <;> rw [h] <;> (repeat' split) <;> omega
theorem cross_back (p a b : Int × Int) : crossI p b a = 1 * crossI p a b := by
  unfold crossI
  rw [past_back p a b]
  rcases pastI_bd p a b with h | h | h <;> rw [h] <;> omega
theorem minI_comm (a b : Int) : minI a b = minI b a := by unfold minI; split <;> split <;> omega
theorem maxI_comm (a b : Int) : maxI a b = maxI b a := by unfold maxI; split <;> split <;> omega
theorem on_back (p a b : Int × Int) : onP p b a = onP p a b := by
  unfold onP onB
  rw [minI_comm b.1 a.1, minI_comm b.2 a.2, maxI_comm b.1 a.1, maxI_comm b.2 a.2]
  have := turnP_back a b p
  unfold turnP at this
  rw [this]
  congr 1
  rw [Bool.eq_iff_iff]
  simp
theorem onI_back (p a b : Int × Int) : onI p b a = 1 * onI p a b := by unfold onI; rw [on_back]; split <;> rfl
def sh (d p : Int × Int) : Int × Int := (p.1 + d.1, p.2 + d.2)
theorem turn_sh (d o a b : Int × Int) : turnP (sh d o) (sh d a) (sh d b) = turnP o a b := by unfold turnP sh; exact turn_shift _ _ _ _ _ _ _ _
theorem past_sh (d p a b : Int × Int) : pastI (sh d p) (sh d a) (sh d b) = pastI p a b := by
  unfold pastI
  rw [turn_sh]
  have e1 : ((sh d a).2 ≤ (sh d p).2) = (a.2 ≤ p.2) := by unfold sh; simp
  have e2 : ((sh d p).2 < (sh d b).2) = (p.2 < b.2) := by unfold sh; simp
  have e3 : ((sh d b).2 ≤ (sh d p).2) = (b.2 ≤ p.2) := by unfold sh; simp
  have e4 : ((sh d p).2 < (sh d a).2) = (p.2 < a.2) := by unfold sh; simp
  simp only [e1, e2, e3, e4]
theorem cross_sh (d p a b : Int × Int) : crossI (sh d p) (sh d a) (sh d b) = crossI p a b := by unfold crossI; rw [past_sh]
theorem on_sh (d p a b : Int × Int) : onP (sh d p) (sh d a) (sh d b) = onP p a b := by
  unfold onP onB
  have ht := turn_sh d a b p
  unfold turnP at ht
  rw [ht]
  congr 1
  unfold hasB rightB minI maxI sh
  rw [Bool.eq_iff_iff]
  simp only [Bool.and_eq_true, decide_eq_true_eq]
  repeat' split
  all_goals omega
theorem onI_sh (d p a b : Int × Int) : onI (sh d p) (sh d a) (sh d b) = onI p a b := by unfold onI; rw [on_sh]
theorem sh_at (d : Int × Int) (L : List (Int × Int)) (i : Nat) (h : 0 < L.length) : pAt (L.map (sh d)) i = sh d (pAt L i) := by
  unfold pAt
  have hi : i % L.length < L.length := Nat.mod_lt _ h
  rw [List.length_map]
  simp [List.getD, hi]
theorem sh_sum {f g : Int × Int → Int × Int → Int} (d : Int × Int) (hf : ∀ a b, f (sh d a) (sh d b) = g a b) (L : List (Int × Int)) : sumZ f (L.map (sh d)) L.length = sumZ g L L.length := by
  by_cases h : 0 < L.length
  · rw [sumZ_N, sumZ_N]
    exact sumN_congr (fun i _ => by rw [sh_at d L i h, sh_at d L (i + 1) h, hf])
  · have : L.length = 0 := by omega
    rw [this]; rfl

/-! ### What the law asks -/
theorem rot_edge (L : List (Int × Int)) (R : Nat) (b : Bool) (p : Int × Int) : edgeL (rotL L R b) p = edgeL L p := by
  rw [edge_sum, edge_sum, rotL_len]
  cases b
  · rw [rot_sum]
  · rw [back_sum 1 (fun a b => onI_back p a b), Int.one_mul]
theorem rot_cross (L : List (Int × Int)) (R : Nat) (b : Bool) (p : Int × Int) : sumZ (crossI p) (rotL L R b) (rotL L R b).length = sumZ (crossI p) L L.length := by
  rw [rotL_len]
  cases b
  · rw [rot_sum]
  · rw [back_sum 1 (fun a b => cross_back p a b), Int.one_mul]
theorem rot_covers (L : List (Int × Int)) (R : Nat) (b : Bool) (p : Int × Int) : coversL (rotL L R b) p = coversL L p := by unfold coversL; rw [rot_edge, rot_cross]
theorem rot_wind (L : List (Int × Int)) (R : Nat) (b : Bool) (p : Int × Int) : sumZ (pastI p) (rotL L R b) (rotL L R b).length = if b then -sumZ (pastI p) L L.length else sumZ (pastI p) L L.length := by
  rw [rotL_len]
  cases b
  · rw [rot_sum]; rfl
  · rw [back_sum (-1) (fun a b => past_back p a b)]; simp
theorem sh_edge (L : List (Int × Int)) (d p : Int × Int) : edgeL (L.map (sh d)) (sh d p) = edgeL L p := by
  rw [edge_sum, edge_sum, List.length_map, sh_sum (g := onI p) d (fun a b => onI_sh d p a b)]
theorem sh_cross (L : List (Int × Int)) (d p : Int × Int) : sumZ (crossI (sh d p)) (L.map (sh d)) (L.map (sh d)).length = sumZ (crossI p) L L.length := by
  rw [List.length_map, sh_sum (g := crossI p) d (fun a b => cross_sh d p a b)]
theorem sh_covers (L : List (Int × Int)) (d p : Int × Int) : coversL (L.map (sh d)) (sh d p) = coversL L p := by unfold coversL; rw [sh_edge, sh_cross]
theorem sh_wind (L : List (Int × Int)) (d p : Int × Int) : sumZ (pastI (sh d p)) (L.map (sh d)) (L.map (sh d)).length = sumZ (pastI p) L L.length := by
  rw [List.length_map, sh_sum (g := pastI p) d (fun a b => past_sh d p a b)]
theorem rot_32 {L : List (Int × Int)} (h : All32 L) (R : Nat) (b : Bool) : All32 (rotL L R b) := by
  intro q hq
  obtain ⟨i, hi, rfl⟩ := List.mem_map.1 hq
  have hi' := List.mem_range.1 hi
  have hm : (R + i) % L.length < L.length := Nat.mod_lt _ (by omega)
  have : (if b then L.length - 1 - (R + i) % L.length else (R + i) % L.length) < L.length := by split <;> omega
  rw [List.getD_eq_getElem?_getD, List.getElem?_eq_getElem this]
  exact h _ (List.getElem_mem this)
end Go.Proofs.Ytpdhknclhpifkab
