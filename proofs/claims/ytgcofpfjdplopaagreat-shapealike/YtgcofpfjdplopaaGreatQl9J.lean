/- What is wrong with two edges: plain. Plain: a disc without radius, a corridor without width, a box. Plain: the ring of a box. -/
import Derived.Test.YtgcofpfjdplopaaGreatSegM
import Derived.Test.YtgcofpfjdplopaaGreatTurnsPJ
import Derived.Test.YtgcofpfjdplopaaGreatSegS
import Derived.Test.YtgcofpfjdplopaaGreatR6c
namespace Go.Proofs.YtgcofpfjdplopaaGreat
section
theorem wid_ne (m : Mt) (t : Fr) : widM m t ≠ mt0 := by
  unfold widM
  split
  · exact one_ne t
  · intro h
    have := congrArg Prod.fst h
    simp [mt0] at this
theorem step_ne (a b c d : P2) (m : Mt) (e : P2) : stepM a b c d m e ≠ mt0 ↔ (m ≠ mt0 ∨ (On e a b ∧ On e c d)) := by
  unfold stepM
  rw [← bothB_iff]
  cases h : bothB a b c d e with
  | true => simp [wid_ne]
  | false => simp
theorem ends_ne (a b c d : P2) : endsM a b c d ≠ mt0 ↔ (On a c d ∨ On b c d ∨ On c a b ∨ On d a b) := by
  unfold endsM
  rw [step_ne, step_ne, step_ne, step_ne]
  have h1 := on_left a b
  have h2 := on_right a b
  have h3 := on_left c d
  have h4 := on_right c d
  constructor
  · rintro ((((h | h) | h) | h) | h)
    · exact absurd rfl h
    · exact .inl h.2
    · exact .inr (.inl h.2)
    · exact .inr (.inr (.inl h.1))
    · exact .inr (.inr (.inr h.1))
  · rintro (h | h | h | h)
    · exact .inl (.inl (.inl (.inr ⟨h1, h⟩)))
    · exact .inl (.inl (.inr ⟨h2, h⟩))
    · exact .inl (.inr ⟨h, h3⟩)
    · exact .inr ⟨h, h4⟩
theorem touch_iff (a b c d : P2) : meetM a b c d ≠ mt0 ↔ ((On a c d ∨ On b c d ∨ On c a b ∨ On d a b) ∨ (oppS (crs a b c) (crs a b d) = true ∧ oppS (crs c d a) (crs c d b) = true)) := by
  unfold meetM
  by_cases h : endsM a b c d = mt0
  · rw [if_pos h]
    have hn : ¬ (On a c d ∨ On b c d ∨ On c a b ∨ On d a b) := by rw [← ends_ne]; simpa using h
    unfold insideM
    split
    · rename_i k
      rw [Bool.and_eq_true] at k
      constructor
      · intro _; exact .inr k
      · intro _ e
        have := congrArg Prod.fst e
        simp [mt0] at this
    · rename_i k
      rw [Bool.and_eq_true] at k
      constructor
      · intro e; exact absurd rfl e
      · rintro (e | e)
        · exact absurd e hn
        · exact absurd e k
  · rw [if_neg h]
    exact ⟨fun _ => .inl ((ends_ne a b c d).1 h), fun _ => h⟩
theorem kind_line (N x y : Int) : (lineM N x y).1 = 2 ↔ max 0 (min x y) < min N (max x y) := by
  unfold lineM
  split
  · simp [mt0]; omega
  · split
    · simp [oneM]; omega
    · simp; omega
theorem kind_cross (A B C D : Int) : (crossM A B C D).1 ≠ 2 := by unfold crossM; split <;> simp [mt0]
theorem dtt_b (a b : P2) : dtt a b b = dd a b := by unfold dtt dd; grind
theorem dtt_a (a b : P2) : dtt a b a = 0 := by unfold dtt; grind
/-- Two edges one behind the other: more in common than where they meet. -/
theorem fold_iff {a b d : P2} (h : a ≠ b) (hbd : b ≠ d) : (meetM a b b d).1 = 2 ↔ crs a b d = 0 ∧ (On a b d ∨ On d a b) := by
  rw [meet_eq]
  unfold meetT
  rw [if_neg h]
  have hN := dd_pos h
  by_cases hc : crs a b d = 0
  · rw [if_pos ⟨crs_right a b, hc⟩, kind_line, dtt_b]
    have hy : dtt a b d ≠ dd a b := fun e => hbd (line_pt h hc (crs_right a b) (by rw [dtt_b]; exact e.symm))
    have key : On d a b ↔ 0 ≤ dtt a b d ∧ dtt a b d ≤ dd a b := by rw [on_iff h]; simp [hc]
    have e1 : dtt b d a = dd a b - dtt a b d := by unfold dtt dd; grind
    have e0 : crs b d a = crs a b d := by unfold crs; grind
    have e2 : dd b d = dd a d - 2 * dtt a b d + dd a b := by unfold dtt dd; grind
    have key2 : On a b d ↔ 0 ≤ dd a b - dtt a b d ∧ dd a b - dtt a b d ≤ dd b d := by rw [on_iff hbd, e1, e0]; simp [hc]
    have hdn := dd_nn a d
    rw [key, key2, e2]
    constructor
    · intro k
      refine ⟨hc, ?_⟩
      rcases lt_ge (dtt a b d) 0 with q | q
      · left; omega
      · right; omega
    · rintro ⟨_, k | k⟩ <;> omega
  · rw [if_neg (fun k => hc k.2)]
    constructor
    · intro k; exact absurd k (kind_cross _ _ _ _)
    · rintro ⟨k, _⟩; exact absurd k hc
/-- The last edge and the first one. -/
theorem fold_iff' {a b c : P2} (h : a ≠ b) (hca : c ≠ a) : (meetM a b c a).1 = 2 ↔ crs c a b = 0 ∧ (On c a b ∨ On b c a) := by
  rw [meet_eq]
  unfold meetT
  rw [if_neg h]
  have hN := dd_pos h
  have e0 : crs c a b = crs a b c := by unfold crs; grind
  rw [e0]
  by_cases hc : crs a b c = 0
  · rw [if_pos ⟨hc, crs_left a b⟩, kind_line, dtt_a]
    have hx : dtt a b c ≠ 0 := fun e => hca (line_pt h (crs_left a b) hc (by rw [dtt_a]; exact e))
    have key : On c a b ↔ 0 ≤ dtt a b c ∧ dtt a b c ≤ dd a b := by rw [on_iff h]; simp [hc]
    have e1 : dtt c a b = dd a c - dtt a b c := by unfold dtt dd; grind
    have e2 : dd c a = dd a c := by unfold dd; grind
    have key2 : On b c a ↔ 0 ≤ dd a c - dtt a b c ∧ dd a c - dtt a b c ≤ dd a c := by rw [on_iff hca, e1, e0, e2]; simp [hc]
    have hsq : dd a c * dd a b = dtt a b c * dtt a b c := by unfold crs at hc; unfold dtt dd; grind
    rw [key, key2]
    constructor
    · intro k
      refine ⟨hc, ?_⟩
      have hx0 : 0 < dtt a b c := by omega
      rcases lt_ge (dd a b) (dtt a b c) with q | q
      · right
        refine ⟨?_, by omega⟩
        rcases lt_ge (dd a c) (dtt a b c) with r | r
        · exfalso
          have : dd a c * dd a b < dtt a b c * dtt a b c := by
            have h1 : dd a c * dd a b ≤ dtt a b c * dd a b := Int.mul_le_mul_of_nonneg_right (by omega) (by omega)
            have h2 : dtt a b c * dd a b < dtt a b c * dtt a b c := Int.mul_lt_mul_of_pos_left q hx0
            omega
          omega
        · omega
      · left; omega
    · rintro ⟨_, k | k⟩
      · omega
      · omega
  · rw [if_neg (fun k => hc k.1)]
    constructor
    · intro k; exact absurd k (kind_cross _ _ _ _)
    · rintro ⟨k, _⟩; exact absurd k hc
theorem kind_zero (a b c d : P2) : (meetM a b c d).1 = 0 ↔ meetM a b c d = mt0 := by
  rw [meet_eq]
  unfold meetT lineM crossM
  repeat' split
  all_goals simp [mt0, oneM]
end
section
open Go.RowKit Go.Sort

theorem meetA_lat {a b c d : P2} (ha : lat a) (hb : lat b) (hc : lat c) (hd : lat d) : meetA a b c d = meetM a b c d := by
  unfold meetA
  rw [if_pos (by rw [Bool.and_eq_true, Bool.and_eq_true, Bool.and_eq_true, latP_iff, latP_iff, latP_iff, latP_iff]; exact ⟨⟨⟨ha, hb⟩, hc⟩, hd⟩)]
theorem touch_iff' {a b c d : P2} (ha : lat a) (hb : lat b) (hc : lat c) (hd : lat d) : touchA a b c d = true ↔ ((On a c d ∨ On b c d ∨ On c a b ∨ On d a b) ∨ (oppS (crs a b c) (crs a b d) = true ∧ oppS (crs c d a) (crs c d b) = true)) := by
  unfold touchA
  rw [decide_eq_true_iff, meetA_lat ha hb hc hd, touch_iff]
theorem opp_sg9 (x y : Int) : oppS x y = decide (sg6 x * sg6 y < 0) := by
  unfold oppS sg6
  rcases Int.lt_trichotomy x 0 with h | h | h <;> rcases Int.lt_trichotomy y 0 with k | k | k
  all_goals (repeat' split)
  all_goals first | (exfalso; omega) | (simp <;> omega)
theorem touch_six {a b c d : P2} (ha : lat a) (hb : lat b) (hc : lat c) (hd : lat d) : touchA a b c d = touch6 a b c d := by
  rw [Bool.eq_iff_iff, touch_iff' ha hb hc hd]
  unfold touch6
  rw [← opp_sg9, ← opp_sg9]
  simp only [Bool.or_eq_true, Bool.and_eq_true, onP_iff, or_assoc]
theorem on_end (a b : P2) : On a a b := by
  unfold On crs; refine ⟨by rw [Int.sub_self, Int.sub_self]; simp, ⟨by omega, by omega⟩, ⟨by omega, by omega⟩⟩
theorem on_end' (a b : P2) : On b a b := by
  unfold On crs; refine ⟨by rw [Int.mul_comm]; omega, ⟨by omega, by omega⟩, ⟨by omega, by omega⟩⟩
theorem opp_self (x : Int) : oppS x x = false := by
  rw [Bool.eq_false_iff]; intro h; unfold oppS at h; simp at h; omega
theorem touch_pt {a b p : P2} (ha : lat a) (hb : lat b) (hp : lat p) : touchA a b p p = onP p a b := by
  rw [Bool.eq_iff_iff, touch_iff' ha hb hp hp, onP_iff, opp_self]
  constructor
  · rintro ((h | h | h | h) | ⟨h, _⟩)
    · rw [on_same] at h; rw [h]; exact on_end _ _
    · rw [on_same] at h; rw [h]; exact on_end' _ _
    · exact h
    · exact h
    · exact absurd h (by simp)
  · intro h; exact .inl (.inr (.inr (.inl h)))
theorem near0 {a p q : P2} (ha : lat a) (hp : lat p) (hq : lat q) : nearA a p q 0 = onP a p q := by
  rw [nearA_seg, nearS_zero, touch_turn, touch_pt hp hq ha]
theorem near00 {a p : P2} (ha : lat a) (hp : lat p) : nearA a p p 0 = decide (p = a) := by
  rw [near0 ha hp hp, Bool.eq_iff_iff, onP_iff, on_same, decide_eq_true_iff]
  exact ⟨Eq.symm, Eq.symm⟩
theorem corr0 (a b p q : P2) : corrM [a, b] p q 0 = nearS a b p q 0 := by
  unfold corrM legB; simp [List.getD]
theorem corr_on {a b p : P2} (ha : lat a) (hb : lat b) (hp : lat p) : corrM [a, b] p p 0 = onP p a b := by rw [corr0, nearS_zero, touch_pt ha hb hp]
theorem corr_touch {a b p q : P2} (ha : lat a) (hb : lat b) (hp : lat p) (hq : lat q) : corrM [a, b] p q 0 = touch6 a b p q := by rw [corr0, nearS_zero, touch_six ha hb hp hq]

theorem has_iff (a b p : P2) : hasB a.1 a.2 b.1 b.2 p.1 p.2 = true ↔ (a.1 ≤ p.1 ∧ a.2 ≤ p.2) ∧ (p.1 ≤ b.1 ∧ p.2 ≤ b.2) := by
  unfold hasB rightB; simp
theorem has_line {a b p : P2} (h1 : a.1 ≤ b.1) (h2 : a.2 ≤ b.2) (h : a.1 = b.1 ∨ a.2 = b.2) : hasB a.1 a.2 b.1 b.2 p.1 p.2 = onP p a b := by
  rw [Bool.eq_iff_iff, has_iff, onP_iff]
  unfold On crs
  constructor
  · rintro ⟨⟨h3, h4⟩, h5, h6⟩
    refine ⟨?_, ⟨by omega, by omega⟩, by omega, by omega⟩
    rcases h with h | h
    · rw [show b.1 - a.1 = 0 by omega, show p.1 - a.1 = 0 by omega]; simp
    · rw [show b.2 - a.2 = 0 by omega, show p.2 - a.2 = 0 by omega]; simp
  · rintro ⟨_, ⟨h3, h4⟩, h5, h6⟩
    omega
end
section
set_option linter.unusedVariables false
open Go.RowKit Go.Sort

theorem mul_sign {k t : Int} (hk : 0 < k) : (0 < k * t ↔ 0 < t) ∧ (k * t < 0 ↔ t < 0) ∧ (k * t = 0 ↔ t = 0) := by
  rcases Int.lt_trichotomy t 0 with h | h | h
  · have := Int.mul_neg_of_pos_of_neg hk h; omega
  · subst h; simp
  · have := Int.mul_pos hk h; omega
theorem ring_at (a b : P2) : pAt (crnL a b) 0 = a ∧ pAt (crnL a b) 1 = (b.1, a.2) ∧ pAt (crnL a b) 2 = b ∧ pAt (crnL a b) 3 = (a.1, b.2) ∧ pAt (crnL a b) 4 = a := by unfold pAt crnL; simp [List.getD]
theorem four_lt {i : Nat} (h : i < 4) : i = 0 ∨ i = 1 ∨ i = 2 ∨ i = 3 := by omega

theorem no_touch {a b c d : P2} (_ : lat a) (_ : lat b) (_ : lat c) (_ : lat d) (h : touchA a b c d = false) : meetA a b c d = mt0 := by
  unfold touchA at h; rw [decide_eq_false_iff_not] at h; exact Classical.byContradiction h
theorem ring_lat {a b : P2} (ha : lat a) (hb : lat b) (h1 : a.1 < b.1) (h2 : a.2 < b.2) : lat (b.1, a.2) ∧ lat (a.1, b.2) := by
  unfold lat at *; exact ⟨⟨hb.1, ha.2⟩, ha.1, hb.2⟩
theorem ring_out {a b : P2} (ha : lat a) (hb : lat b) (h1 : a.1 < b.1) (h2 : a.2 < b.2) : fstI (outB (crnL a b)) 4 = -1 := by
  refine fst_none (fun i hi => ?_)
  obtain ⟨l1, l2⟩ := ring_lat ha hb h1 h2
  obtain ⟨e0, e1, e2, e3, _⟩ := ring_at a b
  have go : ∀ p : P2, lat p → (!(latB p.1 && latB p.2)) = false := fun p hp => by
    have : latP p = true := latP_iff p |>.2 hp
    unfold latP at this; rw [this]; rfl
  unfold outB
  rcases four_lt hi with rfl | rfl | rfl | rfl
  · rw [e0]; exact go _ ha
  · rw [e1]; exact go _ l1
  · rw [e2]; exact go _ hb
  · rw [e3]; exact go _ l2
theorem ring_sam {a b : P2} (ha : lat a) (hb : lat b) (h1 : a.1 < b.1) (h2 : a.2 < b.2) : fstI (samB (crnL a b)) 4 = -1 := by
  refine fst_none (fun i hi => ?_)
  obtain ⟨e0, e1, e2, e3, e4⟩ := ring_at a b
  unfold samB
  rw [decide_eq_false_iff_not]
  rcases four_lt hi with rfl | rfl | rfl | rfl
  · rw [e0, e1]; intro e; rw [Prod.ext_iff] at e; simp at e; omega
  · rw [e1, e2]; intro e; rw [Prod.ext_iff] at e; simp at e; omega
  · rw [e2, e3]; intro e; rw [Prod.ext_iff] at e; simp at e; omega
  · rw [e3, e4]; intro e; rw [Prod.ext_iff] at e; simp at e; omega
theorem ring_pf {a b : P2} (ha : lat a) (hb : lat b) (h1 : a.1 < b.1) (h2 : a.2 < b.2) (i j : Nat) (hij : i < j) (hj : j < 4) : pfI (crnL a b) i j = 0 := by
  obtain ⟨l1, l2⟩ := ring_lat ha hb h1 h2
  obtain ⟨e0, e1, e2, e3, e4⟩ := ring_at a b
  have hk : 0 < (b.1 - a.1) * (b.2 - a.2) := Int.mul_pos (by omega) (by omega)
  have n01 : a ≠ (b.1, a.2) := fun e => by rw [Prod.ext_iff] at e; simp at e; omega
  have n12 : (b.1, a.2) ≠ b := fun e => by rw [Prod.ext_iff] at e; simp at e; omega
  have n23 : b ≠ (a.1, b.2) := fun e => by rw [Prod.ext_iff] at e; simp at e; omega
  have n30 : (a.1, b.2) ≠ a := fun e => by rw [Prod.ext_iff] at e; simp at e; omega
  have k1 : crs a (b.1, a.2) b = (b.1 - a.1) * (b.2 - a.2) := by unfold crs; grind
  have k2 : crs (b.1, a.2) b (a.1, b.2) = (b.1 - a.1) * (b.2 - a.2) := by unfold crs; grind
  have k3 : crs b (a.1, b.2) a = (b.1 - a.1) * (b.2 - a.2) := by unfold crs; grind
  have k4 : crs (a.1, b.2) a (b.1, a.2) = (b.1 - a.1) * (b.2 - a.2) := by unfold crs; grind
  have k5 : crs a (b.1, a.2) (a.1, b.2) = (b.1 - a.1) * (b.2 - a.2) := by unfold crs; grind
  have k6 : crs (b.1, a.2) b a = (b.1 - a.1) * (b.2 - a.2) := by unfold crs; grind
  unfold pfI
  have hc : (i = 0 ∧ j = 1) ∨ (i = 0 ∧ j = 2) ∨ (i = 0 ∧ j = 3) ∨ (i = 1 ∧ j = 2) ∨ (i = 1 ∧ j = 3) ∨ (i = 2 ∧ j = 3) := by omega
  rcases hc with ⟨rfl, rfl⟩ | ⟨rfl, rfl⟩ | ⟨rfl, rfl⟩ | ⟨rfl, rfl⟩ | ⟨rfl, rfl⟩ | ⟨rfl, rfl⟩
  · rw [if_pos (.inl rfl), e0, e1, e2, meetA_lat ha l1 l1 hb, if_neg (by rw [fold_iff n01 n12, k1]; omega)]
  · rw [if_neg (by show ¬ (nxt 4 0 = 2 ∨ nxt 4 2 = 0); decide), e0, e1, e2, e3, if_pos]
    rw [no_touch ha l1 hb l2 ?_]
    · rfl
    · rw [Bool.eq_false_iff]
      intro h
      rw [touch_iff' ha l1 hb l2, k1, k5, opp_self] at h
      rcases h with (h | h | h | h) | ⟨h, _⟩
      · have := h.2.2; simp at this; omega
      · have := h.2.2; simp at this; omega
      · have := h.2.2; simp at this; omega
      · have := h.2.2; simp at this; omega
      · exact absurd h (by simp)
  · rw [if_pos (.inr (by show nxt 4 3 = 0; rfl)), e0, e1, e3, e4, meetA_lat ha l1 l2 ha, if_neg (by rw [fold_iff' n01 n30, k4]; omega)]
  · rw [if_pos (.inl rfl), e1, e2, e3, meetA_lat l1 hb hb l2, if_neg (by rw [fold_iff n12 n23, k2]; omega)]
  · rw [if_neg (by show ¬ (nxt 4 1 = 3 ∨ nxt 4 3 = 1); decide), e1, e2, e3, e4, if_pos]
    rw [no_touch l1 hb l2 ha ?_]
    · rfl
    · rw [Bool.eq_false_iff]
      intro h
      rw [touch_iff' l1 hb l2 ha, k2, k6, opp_self] at h
      rcases h with (h | h | h | h) | ⟨h, _⟩
      · have := h.2.1; simp at this; omega
      · have := h.2.1; simp at this; omega
      · have := h.2.1; simp at this; omega
      · have := h.2.1; simp at this; omega
      · exact absurd h (by simp)
  · rw [if_pos (.inl rfl), e2, e3, e4, meetA_lat hb l2 l2 ha, if_neg (by rw [fold_iff n23 n30, k3]; omega)]
theorem ring_check {a b : P2} (ha : lat a) (hb : lat b) (h1 : a.1 < b.1) (h2 : a.2 < b.2) (r : Int × Int × Int) (h : CheckIs (pfI (crnL a b)) (crnL a b) r) : r = (0, 0, 0) := by
  unfold CheckIs at h
  rw [show (crnL a b).length = 4 from rfl, if_neg (by omega), ring_out ha hb h1 h2, ring_sam ha hb h1 h2, if_neg (by omega), if_neg (by omega)] at h
  rcases h with ⟨h, _⟩ | ⟨i, j, hij, hj, hf, _⟩
  · exact h
  · exact absurd (ring_pf ha hb h1 h2 i j hij hj) hf
end
end Go.Proofs.YtgcofpfjdplopaaGreat
