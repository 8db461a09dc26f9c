/- Plain: ends and segments changed about; a radius of 0, a greater one, a far one. -/
import Derived.Test.YtgcofpfjdplopaaGreatSegV
namespace Go.Proofs.YtgcofpfjdplopaaGreat
section
theorem wid_neS (m : Mt) (t : Fr) : widM m t ≠ mt0 := by
  unfold widM
  split
  · exact one_ne t
  · unfold mt0; intro h; have := congrArg Prod.fst h; simp at this
theorem step_zero (a b c d : P2) (m : Mt) (e : P2) : stepM a b c d m e = mt0 ↔ m = mt0 ∧ bothB a b c d e = false := by
  unfold stepM
  cases bothB a b c d e with
  | false => simp
  | true => simp [wid_neS]
theorem inside_zero (a b c d : P2) : insideM a b c d = mt0 ↔ ¬ (oppS (crs a b c) (crs a b d) = true ∧ oppS (crs c d a) (crs c d b) = true) := by
  unfold insideM
  rw [← Bool.and_eq_true]
  cases (oppS (crs a b c) (crs a b d) && oppS (crs c d a) (crs c d b)) with
  | false => simp
  | true => simp; unfold mt0; intro h; have := congrArg Prod.fst h; simp at this
/-- They meet: an end is on both, or each has its ends on either side of the other. -/
def TQ (a b c d : P2) : Prop := (((On a a b ∧ On a c d) ∨ (On b a b ∧ On b c d)) ∨ ((On c a b ∧ On c c d) ∨ (On d a b ∧ On d c d))) ∨ (oppS (crs a b c) (crs a b d) = true ∧ oppS (crs c d a) (crs c d b) = true)
theorem meet_ne (a b c d : P2) : meetM a b c d ≠ mt0 ↔ TQ a b c d := by
  have hb : ∀ e, bothB a b c d e = false ↔ ¬ (On e a b ∧ On e c d) := fun e => by rw [← bothB_iff]; simp
  unfold meetM
  have he : endsM a b c d = mt0 ↔ ((¬ (On a a b ∧ On a c d) ∧ ¬ (On b a b ∧ On b c d)) ∧ ¬ (On c a b ∧ On c c d)) ∧ ¬ (On d a b ∧ On d c d) := by
    unfold endsM
    rw [step_zero, step_zero, step_zero, step_zero, hb, hb, hb, hb]
    simp [and_assoc]
  by_cases h : endsM a b c d = mt0
  · rw [if_pos h]
    have h' := he.mp h
    rw [Ne, inside_zero]
    unfold TQ
    constructor
    · intro k; exact Or.inr (Classical.not_not.mp k)
    · rintro (((k | k) | (k | k)) | k)
      · exact absurd k h'.1.1.1
      · exact absurd k h'.1.1.2
      · exact absurd k h'.1.2
      · exact absurd k h'.2
      · exact fun q => q k
  · rw [if_neg h]
    constructor
    · intro _
      rw [he] at h
      unfold TQ
      left
      apply Classical.byContradiction
      intro k
      rw [not_or, not_or, not_or] at k
      exact h ⟨⟨⟨k.1.1, k.1.2⟩, k.2.1⟩, k.2.2⟩
    · intro _; exact h
theorem oppS_swap (A B : Int) : oppS A B = oppS B A := by rw [Bool.eq_iff_iff, oppS_iff, oppS_iff]; omega
theorem oppS_neg (A B : Int) : oppS (-A) (-B) = oppS A B := by rw [Bool.eq_iff_iff, oppS_iff, oppS_iff]; omega
theorem TQ_turn (a b c d : P2) : TQ a b c d ↔ TQ c d a b := by
  unfold TQ
  constructor <;> rintro (((⟨h, k⟩ | ⟨h, k⟩) | (⟨h, k⟩ | ⟨h, k⟩)) | ⟨h, k⟩)
  all_goals first
    | exact Or.inl (Or.inr (Or.inl ⟨k, h⟩))
    | exact Or.inl (Or.inr (Or.inr ⟨k, h⟩))
    | exact Or.inl (Or.inl (Or.inl ⟨k, h⟩))
    | exact Or.inl (Or.inl (Or.inr ⟨k, h⟩))
    | exact Or.inr ⟨k, h⟩
theorem TQ_back (a b c d : P2) : TQ a b c d ↔ TQ b a c d := by
  unfold TQ
  rw [crs_back a b c, crs_back a b d, oppS_neg, oppS_swap (crs c d b), on_swap a b a, on_swap b b a, on_swap c b a, on_swap d b a]
  constructor
  · rintro ((( h | h) | h) | h)
    · exact Or.inl (Or.inl (Or.inr h))
    · exact Or.inl (Or.inl (Or.inl h))
    · exact Or.inl (Or.inr h)
    · exact Or.inr h
  · rintro ((( h | h) | h) | h)
    · exact Or.inl (Or.inl (Or.inr h))
    · exact Or.inl (Or.inl (Or.inl h))
    · exact Or.inl (Or.inr h)
    · exact Or.inr h

def lat4 (a b c d : P2) : Prop := lat a ∧ lat b ∧ lat c ∧ lat d
theorem meetA_in {a b c d : P2} (h : lat4 a b c d) : meetA a b c d = meetM a b c d := by
  unfold meetA; rw [(latP_iff _).mpr h.1, (latP_iff _).mpr h.2.1, (latP_iff _).mpr h.2.2.1, (latP_iff _).mpr h.2.2.2]; rfl
theorem meetA_out {a b c d : P2} (h : ¬ lat4 a b c d) : meetA a b c d = mt0 := by
  unfold meetA
  rw [if_neg]
  intro k
  rw [Bool.and_eq_true, Bool.and_eq_true, Bool.and_eq_true, latP_iff, latP_iff, latP_iff, latP_iff] at k
  exact h ⟨k.1.1.1, k.1.1.2, k.1.2, k.2⟩
theorem touchS_iff (a b c d : P2) : touchA a b c d = true ↔ lat4 a b c d ∧ TQ a b c d := by
  unfold touchA
  rw [decide_eq_true_iff]
  by_cases h : lat4 a b c d
  · rw [meetA_in h, meet_ne]; simp [h]
  · rw [meetA_out h]; simp [h]
theorem lat4_turn {a b c d : P2} : lat4 a b c d ↔ lat4 c d a b := by unfold lat4; constructor <;> rintro ⟨h1, h2, h3, h4⟩ <;> exact ⟨h3, h4, h1, h2⟩
theorem lat4_back {a b c d : P2} : lat4 a b c d ↔ lat4 b a c d := by unfold lat4; constructor <;> rintro ⟨h1, h2, h3, h4⟩ <;> exact ⟨h2, h1, h3, h4⟩
theorem lat4_last {a b c d : P2} : lat4 a b c d ↔ lat4 a b d c := by unfold lat4; constructor <;> rintro ⟨h1, h2, h3, h4⟩ <;> exact ⟨h1, h2, h4, h3⟩
theorem touch_turn (a b c d : P2) : touchA a b c d = touchA c d a b := by rw [Bool.eq_iff_iff, touchS_iff, touchS_iff, lat4_turn, TQ_turn]
theorem touch_back (a b c d : P2) : touchA a b c d = touchA b a c d := by rw [Bool.eq_iff_iff, touchS_iff, touchS_iff, lat4_back, TQ_back]
theorem touch_last (a b c d : P2) : touchA a b c d = touchA a b d c := by rw [touch_turn, touch_back, touch_turn]
theorem kind_ne {a b c d : P2} : (meetA a b c d).1 ≠ 0 ↔ touchA a b c d = true := by
  unfold touchA
  rw [decide_eq_true_iff]
  rcases meet_shape (a := a) (b := b) (c := c) (d := d) with e | ⟨i, f, g, e⟩ | ⟨i, f, g, e⟩ <;> rw [e] <;> simp [mt0]

/-! ### The second segment's ends -/
theorem cross_cd {A B C D C' D' : Int} (h : oppB C D = oppB C' D') (k : (C ≠ 0 ∧ D ≠ 0) ↔ (C' ≠ 0 ∧ D' ≠ 0)) : crossM A B C D = crossM A B C' D' := by
  unfold crossM
  rw [h]
  have e : (A ≠ 0 ∧ B ≠ 0 ∧ C ≠ 0 ∧ D ≠ 0) ↔ (A ≠ 0 ∧ B ≠ 0 ∧ C' ≠ 0 ∧ D' ≠ 0) := by rw [k]
  simp only [decide_eq_decide.mpr e]
theorem oppB_swap (A B : Int) : oppB A B = oppB B A := by rw [Bool.eq_iff_iff, oppB_iff, oppB_iff]; unfold opp; omega
theorem oppB_neg (A B : Int) : oppB (-A) (-B) = oppB A B := by rw [Bool.eq_iff_iff, oppB_iff, oppB_iff]; unfold opp; omega
theorem meetT_last (a b c d : P2) : meetT a b d c = meetT a b c d := by
  unfold meetT
  by_cases h : a = b
  · rw [if_pos h, if_pos h]
    have : onP a d c = onP a c d := by rw [Bool.eq_iff_iff, onP_iff, onP_iff, on_swap]
    rw [this]
  · rw [if_neg h, if_neg h]
    by_cases k : crs a b c = 0 ∧ crs a b d = 0
    · rw [if_pos k, if_pos ⟨k.2, k.1⟩]
      unfold lineM
      rw [Int.max_comm (dtt a b d), Int.min_comm (dtt a b d)]
    · rw [if_neg k, if_neg (fun q => k ⟨q.2, q.1⟩), crs_back c d a, crs_back c d b]
      have e := cross_sg (s := -1) (A := crs c d a) (B := crs c d b) (C := crs a b c) (D := crs a b d) (Or.inr rfl)
      rw [← e, Int.neg_one_mul, Int.neg_one_mul, Int.neg_one_mul, Int.neg_one_mul]
      exact cross_cd (by rw [oppB_swap, oppB_neg]) (by omega)
theorem meetA_last (a b c d : P2) : meetA a b c d = meetA a b d c := by
  by_cases h : lat4 a b c d
  · rw [meetA_in h, meetA_in (lat4_last.mp h), meet_eq, meet_eq, meetT_last]
  · rw [meetA_out h, meetA_out (fun k => h (lat4_last.mpr k))]

/-! ### The first segment's ends -/
def lessF (f : Fr) : Fr := (f.2 - f.1, f.2)
def backM (m : Mt) : Mt := (m.1, m.2.1, lessF m.2.2.2, lessF m.2.2.1)
theorem line_back {N x y : Int} (hN : 0 < N) (hk : lineM N x y ≠ mt0) : lineM N (N - x) (N - y) = backM (lineM N x y) := by
  have e1 : max 0 (min (N - x) (N - y)) = N - min N (max x y) := by omega
  have e2 : min N (max (N - x) (N - y)) = N - max 0 (min x y) := by omega
  unfold lineM at *
  rw [e1, e2]
  by_cases h : min N (max x y) < max 0 (min x y)
  · rw [if_pos h] at hk; exact absurd rfl hk
  · rw [if_neg h, if_neg (by omega)]
    generalize max 0 (min x y) = lo at *
    generalize min N (max x y) = hi at *
    by_cases k : lo = hi
    · rw [if_pos k, if_pos (by omega)]
      subst k
      unfold backM oneM lessF
      simp only
      rw [lowF_less (by omega)]
    · rw [if_neg k, if_neg (by omega)]
      unfold backM lessF
      simp only
      rw [lowF_less (by omega), lowF_less (by omega)]
theorem cross_back {A B C D : Int} (hk : crossM A B C D ≠ mt0) : crossM B A (-C) (-D) = backM (crossM A B C D) := by
  unfold crossM at *
  rw [oppB_swap B A, oppB_neg]
  by_cases h : A ≠ B ∧ oppB A B = true ∧ oppB C D = true
  · rw [if_pos h, if_pos ⟨fun e => h.1 e.symm, h.2⟩]
    unfold backM lessF
    simp only
    have e : (B ≠ 0 ∧ A ≠ 0 ∧ -C ≠ 0 ∧ -D ≠ 0) ↔ (A ≠ 0 ∧ B ≠ 0 ∧ C ≠ 0 ∧ D ≠ 0) := by omega
    have q : A - B ≠ 0 := by have := h.1; omega
    have f : lowF B (B - A) = lowF (A - B - A) (A - B) := lowF_eq (by omega) q (by grind)
    rw [f, lowF_less q]
    simp only [decide_eq_decide.mpr e]
  · rw [if_neg h] at hk; exact absurd rfl hk
theorem meetT_back {a b c d : P2} (h : a ≠ b) (hk : meetT a b c d ≠ mt0) : meetT b a c d = backM (meetT a b c d) := by
  unfold meetT at *
  rw [if_neg h] at *
  rw [if_neg (Ne.symm h), crs_back a b c, crs_back a b d]
  have e0 : dd b a = dd a b := by unfold dd; grind
  have e1 : dtt b a c = dd a b - dtt a b c := by unfold dtt dd; grind
  have e2 : dtt b a d = dd a b - dtt a b d := by unfold dtt dd; grind
  by_cases k : crs a b c = 0 ∧ crs a b d = 0
  · rw [if_pos k] at *
    rw [if_pos (by omega), e0, e1, e2]
    exact line_back (dd_pos h) hk
  · rw [if_neg k] at *
    rw [if_neg (by omega)]
    exact cross_back hk
theorem meetA_back {a b c d : P2} (h : a ≠ b) (hk : (meetA a b c d).1 ≠ 0) : meetA b a c d = backM (meetA a b c d) := by
  rw [kind_ne, touchS_iff] at hk
  have hm := (meet_ne a b c d).mpr hk.2
  rw [meetA_in hk.1, meetA_in (lat4_back.mp hk.1), meet_eq, meet_eq]
  rw [meet_eq] at hm
  exact meetT_back h hm

/-! ### Near -/
theorem pyth (p a b : P2) : crs a b p * crs a b p + dtt a b p * dtt a b p = dd a b * dd p a := by unfold crs dtt dd; grind
theorem dd_other (p a b : P2) : dd p b = dd p a - 2 * dtt a b p + dd a b := by unfold dtt dd; grind
theorem dd_comm (a b : P2) : dd a b = dd b a := by unfold dd; grind
theorem near_swap (p a b : P2) (r : Int) : nearB p b a r = nearB p a b r := by
  have e0 : dd b a = dd a b := dd_comm b a
  have e1 : dtt b a p = dd a b - dtt a b p := by unfold dtt dd; grind
  have e2 : crs b a p * crs b a p = crs a b p * crs a b p := by rw [crs_back a b p]; grind
  unfold nearB
  rw [e0, e1, e2]
  by_cases h : a = b
  · subst h; have : dtt a a p = 0 := by unfold dtt; grind
    rw [this]; have := (dd_zero (a := a) (b := a)).mpr rfl; rw [this]; rfl
  · have hN := dd_pos h
    by_cases h1 : dtt a b p ≤ 0
    · rw [if_neg (by omega), if_pos (by omega), if_pos h1]
    · by_cases h2 : dd a b ≤ dtt a b p
      · rw [if_pos (by omega), if_neg h1, if_pos h2]
      · rw [if_neg (by omega), if_neg (by omega), if_neg h1, if_neg h2]
def sqR (r : Int) : Int := min r farI * min r farI
theorem sqR_nn (r : Int) : 0 ≤ sqR r := sq_nn _
theorem near_iff (p a b : P2) (r : Int) : nearB p a b r = true ↔ (dtt a b p ≤ 0 ∧ dd p a ≤ sqR r) ∨ (0 < dtt a b p ∧ dd a b ≤ dtt a b p ∧ dd p b ≤ sqR r) ∨ (0 < dtt a b p ∧ dtt a b p < dd a b ∧ crs a b p * crs a b p ≤ sqR r * dd a b) := by
  unfold nearB sqR
  by_cases h1 : dtt a b p ≤ 0
  · rw [if_pos h1, decide_eq_true_iff]; omega
  · rw [if_neg h1]
    by_cases h2 : dd a b ≤ dtt a b p
    · rw [if_pos h2, decide_eq_true_iff]; omega
    · rw [if_neg h2, decide_eq_true_iff]; omega
theorem near_end {p a b : P2} {r : Int} (h : dd p a ≤ sqR r) : nearB p a b r = true := by
  rw [near_iff]
  have py := pyth p a b
  have od := dd_other p a b
  have nn := dd_nn a b
  by_cases h1 : dtt a b p ≤ 0
  · exact Or.inl ⟨h1, h⟩
  · by_cases h2 : dd a b ≤ dtt a b p
    · exact Or.inr (Or.inl ⟨by omega, h2, by omega⟩)
    · refine Or.inr (Or.inr ⟨by omega, by omega, ?_⟩)
      have a1 := sq_nn (dtt a b p)
      have a2 := Int.mul_le_mul_of_nonneg_left h nn
      have a3 : sqR r * dd a b = dd a b * sqR r := Int.mul_comm _ _
      omega
theorem near_on {p a b : P2} {r : Int} (h : On p a b) : nearB p a b r = true := by
  by_cases hab : a = b
  · subst hab
    have := (on_same p a).mp h
    subst this
    refine near_end ?_
    have := (dd_zero (a := p) (b := p)).mpr rfl
    have := sqR_nn r
    omega
  · have hN := dd_pos hab
    obtain ⟨h0, h1, h2⟩ := (on_iff hab).mp h
    have py := pyth p a b
    rw [h0] at py
    have q := sqR_nn r
    rw [near_iff]
    by_cases k1 : dtt a b p ≤ 0
    · have z : dtt a b p = 0 := by omega
      rw [z] at py
      have : dd p a = 0 := by
        rcases Int.mul_eq_zero.mp (show dd a b * dd p a = 0 by omega) with g | g
        · omega
        · exact g
      exact Or.inl ⟨k1, by omega⟩
    · by_cases k2 : dd a b ≤ dtt a b p
      · have z : dtt a b p = dd a b := by omega
        rw [z] at py
        have : dd p a = dd a b := Int.eq_of_mul_eq_mul_left (a := dd a b) (by omega) (by omega)
        have od := dd_other p a b
        exact Or.inr (Or.inl ⟨by omega, k2, by omega⟩)
      · refine Or.inr (Or.inr ⟨by omega, by omega, ?_⟩)
        rw [h0]
        have := nn_mul q (Int.le_of_lt hN)
        omega
theorem near_zero {p a b : P2} (h : nearB p a b 0 = true) : On p a b := by
  rw [near_iff] at h
  have z : sqR 0 = 0 := by unfold sqR farI; rfl
  rw [z] at h
  rcases h with ⟨_, k⟩ | ⟨_, _, k⟩ | ⟨k1, k2, k3⟩
  · have := dd_nn p a
    have e := (dd_zero (a := p) (b := a)).mp (by omega)
    subst e; exact on_left _ _
  · have := dd_nn p b
    have e := (dd_zero (a := p) (b := b)).mp (by omega)
    subst e; exact on_right _ _
  · have hab : a ≠ b := by rintro rfl; have := (dd_zero (a := a) (b := a)).mpr rfl; omega
    rw [on_iff hab]
    have := sq_nn (crs a b p)
    have e : crs a b p * crs a b p = 0 := by omega
    have : crs a b p = 0 := by rcases Int.mul_eq_zero.mp e with g | g <;> exact g
    exact ⟨this, by omega, by omega⟩
theorem sqR_mono {r s : Int} (h0 : 0 ≤ r) (h : r ≤ s) : sqR r ≤ sqR s := by
  unfold sqR
  have a : 0 ≤ min r farI := by unfold farI; omega
  have b : min r farI ≤ min s farI := by omega
  exact Int.mul_le_mul b b a (by omega)
theorem near_mono {p a b : P2} {r s : Int} (h0 : 0 ≤ r) (h : r ≤ s) (k : nearB p a b r = true) : nearB p a b s = true := by
  rw [near_iff] at *
  have m := sqR_mono h0 h
  rcases k with ⟨k1, k2⟩ | ⟨k1, k2, k3⟩ | ⟨k1, k2, k3⟩
  · exact Or.inl ⟨k1, by omega⟩
  · exact Or.inr (Or.inl ⟨k1, k2, by omega⟩)
  · refine Or.inr (Or.inr ⟨k1, k2, ?_⟩)
    have := Int.mul_le_mul_of_nonneg_right m (dd_nn a b)
    omega
theorem near_far {p a b : P2} (hp : lat p) (ha : lat a) : nearB p a b 3037000498 = true := by
  refine near_end ?_
  have := dd_bd hp ha
  have z : sqR 3037000498 = 9223372024852248004 := by unfold sqR farI; rfl
  omega

theorem endN_iff (a b c d : P2) (r : Int) : endN a b c d r = true ↔ (nearB a c d r = true ∨ nearB b c d r = true) ∨ (nearB c a b r = true ∨ nearB d a b r = true) := by
  unfold endN nj
  rw [near_swap b c d, near_swap d a b]
  simp only [Bool.or_eq_true, or_assoc]
theorem nearS_iff (a b c d : P2) (r : Int) : nearS a b c d r = true ↔ 0 ≤ r ∧ lat4 a b c d ∧ (touchA a b c d = true ∨ endN a b c d r = true) := by
  unfold nearS
  rw [Bool.and_eq_true, Bool.and_eq_true, Bool.and_eq_true, Bool.and_eq_true, Bool.and_eq_true, Bool.or_eq_true, decide_eq_true_iff, latP_iff, latP_iff, latP_iff, latP_iff]
  unfold lat4
  constructor
  · rintro ⟨⟨h, ⟨⟨h1, h2⟩, h3⟩, h4⟩, h5⟩; exact ⟨h, ⟨h1, h2, h3, h4⟩, h5⟩
  · rintro ⟨h, ⟨h1, h2, h3, h4⟩, h5⟩; exact ⟨⟨h, ⟨⟨h1, h2⟩, h3⟩, h4⟩, h5⟩
theorem nearA_iff (p a b : P2) (r : Int) : nearA p a b r = true ↔ 0 ≤ r ∧ (lat p ∧ lat a ∧ lat b) ∧ nearB p a b r = true := by
  unfold nearA
  rw [Bool.and_eq_true, Bool.and_eq_true, Bool.and_eq_true, Bool.and_eq_true, decide_eq_true_iff, latP_iff, latP_iff, latP_iff]
  constructor
  · rintro ⟨⟨h, ⟨h1, h2⟩, h3⟩, h5⟩; exact ⟨h, ⟨h1, h2, h3⟩, h5⟩
  · rintro ⟨h, ⟨h1, h2, h3⟩, h5⟩; exact ⟨⟨h, ⟨h1, h2⟩, h3⟩, h5⟩
theorem nearS_turn (a b c d : P2) (r : Int) : nearS a b c d r = nearS c d a b r := by
  rw [Bool.eq_iff_iff, nearS_iff, nearS_iff, endN_iff, endN_iff, touch_turn a b c d, lat4_turn (a := a)]
  constructor <;> rintro ⟨h, k, q | q⟩
  · exact ⟨h, k, Or.inl q⟩
  · exact ⟨h, k, Or.inr q.symm⟩
  · exact ⟨h, k, Or.inl q⟩
  · exact ⟨h, k, Or.inr q.symm⟩
theorem nearS_back (a b c d : P2) (r : Int) : nearS a b c d r = nearS b a c d r := by
  rw [Bool.eq_iff_iff, nearS_iff, nearS_iff, endN_iff, endN_iff, touch_back a b c d, lat4_back (a := a), near_swap c a b, near_swap d a b]
  constructor <;> rintro ⟨h, k, q | q⟩
  · exact ⟨h, k, Or.inl q⟩
  · exact ⟨h, k, Or.inr (q.elim (fun x => Or.inl x.symm) Or.inr)⟩
  · exact ⟨h, k, Or.inl q⟩
  · exact ⟨h, k, Or.inr (q.elim (fun x => Or.inl x.symm) Or.inr)⟩
theorem nearS_both (a b c d : P2) (r : Int) : nearS a b c d r = nearS b a d c r := by rw [nearS_back, nearS_turn, nearS_back, nearS_turn]
theorem nearA_swap (p a b : P2) (r : Int) : nearA p a b r = nearA p b a r := by
  rw [Bool.eq_iff_iff, nearA_iff, nearA_iff, near_swap p a b]
  constructor <;> rintro ⟨h, ⟨h1, h2, h3⟩, k⟩ <;> exact ⟨h, ⟨h1, h3, h2⟩, k⟩
theorem nearA_seg (p a b : P2) (r : Int) : nearA p a b r = nearS p p a b r := by
  rw [Bool.eq_iff_iff, nearA_iff, nearS_iff]
  unfold lat4
  constructor
  · rintro ⟨h, ⟨h1, h2, h3⟩, k⟩
    exact ⟨h, ⟨h1, h1, h2, h3⟩, Or.inr ((endN_iff _ _ _ _ _).mpr (Or.inl (Or.inl k)))⟩
  · rintro ⟨h, ⟨h1, _, h2, h3⟩, k⟩
    refine ⟨h, ⟨h1, h2, h3⟩, ?_⟩
    rcases k with k | k
    · rw [touchS_iff] at k
      have k' := (meet_ne p p a b).mpr k.2
      rw [meet_point] at k'
      refine near_on ((onP_iff p a b).mp ?_)
      cases ho : onP p a b with
      | true => rfl
      | false => rw [ho] at k'; exact absurd rfl k'
    · rw [endN_iff] at k
      have z : ∀ e : P2, nearB e p p r = true → dd p e ≤ sqR r := fun e q => by
        rw [near_iff] at q
        have t : dtt p p e = 0 := by unfold dtt; grind
        rw [t] at q
        rw [dd_comm]
        omega
      rcases k with (k | k) | (k | k)
      · exact k
      · exact k
      · exact near_end (z a k)
      · rw [← near_swap p a b]; exact near_end (z b k)
theorem nearS_zero (a b c d : P2) : nearS a b c d 0 = touchA a b c d := by
  rw [Bool.eq_iff_iff, nearS_iff]
  constructor
  · rintro ⟨_, hl, k | k⟩
    · exact k
    · rw [touchS_iff]
      refine ⟨hl, Or.inl ?_⟩
      rw [endN_iff] at k
      rcases k with (k | k) | (k | k)
      · exact Or.inl (Or.inl ⟨on_left a b, near_zero k⟩)
      · exact Or.inl (Or.inr ⟨on_right a b, near_zero k⟩)
      · exact Or.inr (Or.inl ⟨near_zero k, on_left c d⟩)
      · exact Or.inr (Or.inr ⟨near_zero k, on_right c d⟩)
  · intro k
    exact ⟨by omega, ((touchS_iff a b c d).mp k).1, Or.inl k⟩
theorem nearA_more {p a b : P2} {r s : Int} (h : r < s) (k : nearA p a b r = true) : nearA p a b s = true := by
  rw [nearA_iff] at *
  exact ⟨by omega, k.2.1, near_mono k.1 (by omega) k.2.2⟩
theorem nearS_more {a b c d : P2} {r s : Int} (h : r < s) (k : nearS a b c d r = true) : nearS a b c d s = true := by
  rw [nearS_iff] at *
  refine ⟨by omega, k.2.1, ?_⟩
  rcases k.2.2 with q | q
  · exact Or.inl q
  · right
    rw [endN_iff] at *
    have m : ∀ {p x y : P2}, nearB p x y r = true → nearB p x y s = true := fun q => near_mono k.1 (by omega) q
    rcases q with (q | q) | (q | q)
    · exact Or.inl (Or.inl (m q))
    · exact Or.inl (Or.inr (m q))
    · exact Or.inr (Or.inl (m q))
    · exact Or.inr (Or.inr (m q))
theorem nearA_far {p a b : P2} (hp : lat p) (ha : lat a) (hb : lat b) : nearA p a b 3037000498 = true := by
  rw [nearA_iff]; exact ⟨by omega, ⟨hp, ha, hb⟩, near_far hp ha⟩
theorem nearS_far {a b c d : P2} (h : lat4 a b c d) : nearS a b c d 3037000498 = true := by
  rw [nearS_iff]; exact ⟨by omega, h, Or.inr ((endN_iff _ _ _ _ _).mpr (Or.inl (Or.inl (near_far h.1 h.2.2.1))))⟩
end
end Go.Proofs.YtgcofpfjdplopaaGreat
