/- Plain: how two segments meet: what the ends show, and what crossing shows, is the one meeting. -/
import Derived.Test.YtgcofpfjdplopaaGreatSegQJ
namespace Go.Proofs.YtgcofpfjdplopaaGreat
section
abbrev Mt := Int × Bool × Fr × Fr
def mt0 : Mt := (0, false, (0, 0), (0, 0))
def oneM (f : Fr) : Mt := (1, false, f, f)
def widM (m : Mt) (t : Fr) : Mt := if m = mt0 ∨ m = oneM t then oneM t else (2, m.2.1, (if ltF t m.2.2.1 then t else m.2.2.1), (if ltF m.2.2.2 t then t else m.2.2.2))
def clampT (p a b : P2) : Int := min (max (dtt a b p) 0) (dd a b)
def footF (p a b : P2) : Fr := if a = b then (0, 1) else lowF (clampT p a b) (dd a b)
def onP (p a b : P2) : Bool := decide (crs a b p = 0) && ((decide (min a.1 b.1 ≤ p.1) && decide (p.1 ≤ max a.1 b.1)) && (decide (min a.2 b.2 ≤ p.2) && decide (p.2 ≤ max a.2 b.2)))
theorem onP_iff (p a b : P2) : onP p a b = true ↔ On p a b := by unfold onP On; simp
theorem onP_false (p a b : P2) : onP p a b = false ↔ ¬ On p a b := by rw [← onP_iff]; simp
def bothB (a b c d e : P2) : Bool := onP e a b && onP e c d
theorem bothB_iff (a b c d e : P2) : bothB a b c d e = true ↔ On e a b ∧ On e c d := by unfold bothB; rw [Bool.and_eq_true, onP_iff, onP_iff]
def stepM (a b c d : P2) (m : Mt) (e : P2) : Mt := if bothB a b c d e then widM m (footF e a b) else m
def endsM (a b c d : P2) : Mt := stepM a b c d (stepM a b c d (stepM a b c d (stepM a b c d mt0 a) b) c) d
def oppS (A B : Int) : Bool := (decide (A < 0) && decide (0 < B)) || (decide (B < 0) && decide (0 < A))
def oppB (A B : Int) : Bool := (decide (A ≤ 0) && decide (0 ≤ B)) || (decide (B ≤ 0) && decide (0 ≤ A))
theorem oppB_iff (A B : Int) : oppB A B = true ↔ opp A B := by unfold oppB opp; simp
def insideM (a b c d : P2) : Mt := if oppS (crs a b c) (crs a b d) && oppS (crs c d a) (crs c d b) then (1, true, lowF (crs c d a) (crs c d a - crs c d b), lowF (crs c d a) (crs c d a - crs c d b)) else mt0
def meetM (a b c d : P2) : Mt := if endsM a b c d = mt0 then insideM a b c d else endsM a b c d

def lineM (N x y : Int) : Mt := if min N (max x y) < max 0 (min x y) then mt0 else if max 0 (min x y) = min N (max x y) then oneM (lowF (max 0 (min x y)) N) else (2, false, lowF (max 0 (min x y)) N, lowF (min N (max x y)) N)
def crossM (A B C D : Int) : Mt := if A ≠ B ∧ oppB A B = true ∧ oppB C D = true then (1, decide (A ≠ 0 ∧ B ≠ 0 ∧ C ≠ 0 ∧ D ≠ 0), lowF A (A - B), lowF A (A - B)) else mt0
/-- How they meet, from the words. -/
def meetT (a b c d : P2) : Mt := if a = b then (if onP a c d then oneM (0, 1) else mt0) else if crs a b c = 0 ∧ crs a b d = 0 then lineM (dd a b) (dtt a b c) (dtt a b d) else crossM (crs c d a) (crs c d b) (crs a b c) (crs a b d)

theorem one_ne (f : Fr) : oneM f ≠ mt0 := by unfold oneM mt0; intro h; have := congrArg Prod.fst h; simp at this
theorem wid_zero (t : Fr) : widM mt0 t = oneM t := by unfold widM; simp
theorem wid_one (t : Fr) : widM (oneM t) t = oneM t := by unfold widM; simp

theorem ends_one {a b c d : P2} {f : Fr} (h : ∀ e, e = a ∨ e = b ∨ e = c ∨ e = d → bothB a b c d e = true → footF e a b = f) :
    endsM a b c d = if bothB a b c d a || bothB a b c d b || bothB a b c d c || bothB a b c d d then oneM f else mt0 := by
  have st : ∀ e, (e = a ∨ e = b ∨ e = c ∨ e = d) → ∀ B : Bool, stepM a b c d (if B then oneM f else mt0) e = if B || bothB a b c d e then oneM f else mt0 := by
    intro e he B
    unfold stepM
    cases hb : bothB a b c d e with
    | false => simp
    | true => rw [h e he hb]; cases B <;> simp [wid_zero, wid_one]
  unfold endsM
  have s0 : mt0 = if false = true then oneM f else mt0 := by simp
  conv => lhs; rw [s0]
  rw [st a (by simp), st b (by simp), st c (by simp), st d (by simp)]
  simp

/-! ### One line -/
theorem prod_btw {x X : Int} (hX : X ≠ 0) (h0 : 0 ≤ X * x) (h1 : X * x ≤ X * X) : (0 ≤ x ∧ x ≤ X) ∨ (X ≤ x ∧ x ≤ 0) := by
  rcases Int.lt_or_gt_of_ne hX with h | h
  · right
    constructor
    · have : X * x ≤ X * X := h1
      rcases lt_ge x X with g | g
      · have := Int.mul_lt_mul_of_neg_left g h; omega
      · exact g
    · rcases lt_ge 0 x with g | g
      · have := Int.mul_neg_of_neg_of_pos h g; omega
      · exact g
  · left
    constructor
    · rcases lt_ge x 0 with g | g
      · have := Int.mul_neg_of_pos_of_neg h g; omega
      · exact g
    · rcases lt_ge X x with g | g
      · have := Int.mul_lt_mul_of_pos_left g h; omega
      · exact g
theorem line_pt {a b c e : P2} (h : a ≠ b) (hc : crs a b c = 0) (he : crs a b e = 0) (ht : dtt a b e = dtt a b c) : e = c := by
  have hN := dd_pos h
  have e1 : dd a b * (e.1 - c.1) = 0 := by unfold dd; unfold crs at hc he; unfold dtt at ht; grind
  have e2 : dd a b * (e.2 - c.2) = 0 := by unfold dd; unfold crs at hc he; unfold dtt at ht; grind
  rcases Int.mul_eq_zero.mp e1 with h | h
  · omega
  · rcases Int.mul_eq_zero.mp e2 with h' | h'
    · omega
    · exact Prod.ext (by omega) (by omega)
theorem on_line {a b c d e : P2} (h : a ≠ b) (hc : crs a b c = 0) (hd : crs a b d = 0) (he : crs a b e = 0) :
    On e c d ↔ min (dtt a b c) (dtt a b d) ≤ dtt a b e ∧ dtt a b e ≤ max (dtt a b c) (dtt a b d) := by
  have hN := dd_pos h
  by_cases hcd : c = d
  · subst hcd
    rw [on_same]
    constructor
    · rintro rfl; omega
    · intro k; exact line_pt h hc he (by omega)
  · rw [on_iff hcd]
    have e1 : dd a b * crs c d e = 0 := by unfold crs at *; unfold dd; grind
    have e0 : crs c d e = 0 := by rcases Int.mul_eq_zero.mp e1 with k | k <;> omega
    have e2 : dd a b * dtt c d e = (dtt a b d - dtt a b c) * (dtt a b e - dtt a b c) := by unfold crs at *; unfold dd dtt; grind
    have e3 : dd a b * dd c d = (dtt a b d - dtt a b c) * (dtt a b d - dtt a b c) := by unfold crs at *; unfold dd dtt; grind
    have hM := Int.mul_pos hN (dd_pos hcd)
    have hX : dtt a b d - dtt a b c ≠ 0 := by intro k; rw [k] at e3; omega
    constructor
    · rintro ⟨_, k0, k1⟩
      have x0 := nn_mul (Int.le_of_lt hN) k0
      have x1 := Int.mul_le_mul_of_nonneg_left k1 (Int.le_of_lt hN)
      rw [e2] at x0 x1
      rw [e3] at x1
      have := prod_btw hX x0 x1
      omega
    · intro k
      have := btw_prod (x := dtt a b e - dtt a b c) (X := dtt a b d - dtt a b c) (by omega)
      rw [← e2, ← e3] at this
      refine ⟨e0, ?_, ?_⟩
      · exact Int.le_of_mul_le_mul_left (by rw [Int.mul_zero]; exact this.1) hN
      · exact Int.le_of_mul_le_mul_left this.2 hN

def toM (N : Int) : Option (Int × Int) → Mt
  | none => mt0
  | some (f, g) => if f = g then oneM (lowF f N) else (2, false, lowF f N, lowF g N)
def widS : Option (Int × Int) → Int → Option (Int × Int)
  | none, t => some (t, t)
  | some (f, g), t => some (min f t, max g t)
def okS : Option (Int × Int) → Prop
  | none => True
  | some (f, g) => f ≤ g
theorem okS_wid (s : Option (Int × Int)) (t : Int) (h : okS s) : okS (widS s t) := by
  cases s with
  | none => simp [widS, okS]
  | some q => obtain ⟨f, g⟩ := q; simp only [widS, okS] at *; omega
theorem two_ne (f g : Fr) : ((2, false, f, g) : Mt) ≠ mt0 := by unfold mt0; intro h; have := congrArg Prod.fst h; simp at this
theorem two_one (f g t : Fr) : ((2, false, f, g) : Mt) ≠ oneM t := by unfold oneM; intro h; have := congrArg Prod.fst h; simp at this
theorem one_inj {f g : Fr} : oneM f = oneM g ↔ f = g := by unfold oneM; constructor <;> intro h <;> simp_all
theorem wid_toM {N : Int} (hN : 0 < N) (s : Option (Int × Int)) (t : Int) (h : okS s) : widM (toM N s) (lowF t N) = toM N (widS s t) := by
  cases s with
  | none => simp [toM, widS, wid_zero]
  | some q =>
    obtain ⟨f, g⟩ := q
    simp only [okS] at h
    have tail : ∀ m : Mt, m = (m.1, false, lowF f N, lowF g N) → m ≠ mt0 → m ≠ oneM (lowF t N) → (f ≠ g ∨ t ≠ f) → widM m (lowF t N) = toM N (widS (some (f, g)) t) := by
      intro m hm h1 h2 h3
      unfold widM
      rw [if_neg (by simp [h1, h2])]
      rw [hm]
      simp only [widS, toM, lowF_lt hN]
      have hne : ¬ (min f t = max g t) := by omega
      simp only [hne, if_false]
      refine congrArg (fun x => ((2, false, x) : Mt)) (Prod.ext ?_ ?_)
      · by_cases k : t < f
        · simp only [k, decide_true, if_true]; rw [show min f t = t by omega]
        · simp only [k, decide_false]; rw [show min f t = f by omega]; simp
      · by_cases k : g < t
        · simp only [k, decide_true, if_true]; rw [show max g t = t by omega]
        · simp only [k, decide_false]; rw [show max g t = g by omega]; simp
    by_cases hfg : f = g
    · subst hfg
      by_cases ht : t = f
      · subst ht
        simp [toM, widS, wid_one]
      · simp only [toM, if_true]
        exact tail _ rfl (one_ne _) (by rw [Ne, one_inj, lowF_iff hN]; omega) (Or.inr ht)
    · simp only [toM, hfg, if_false]
      exact tail _ rfl (two_ne _ _) (two_one _ _ _) (Or.inl hfg)
def stepS (B : Bool) (s : Option (Int × Int)) (t : Int) : Option (Int × Int) := if B then widS s t else s
theorem okS_step (B : Bool) (s : Option (Int × Int)) (t : Int) (h : okS s) : okS (stepS B s t) := by
  unfold stepS; cases B with
  | false => exact h
  | true => exact okS_wid s t h

theorem lineS (N x y : Int) (hN : 0 < N) :
    toM N (stepS (decide (0 ≤ y ∧ y ≤ N)) (stepS (decide (0 ≤ x ∧ x ≤ N)) (stepS (decide (min x y ≤ N ∧ N ≤ max x y)) (stepS (decide (min x y ≤ 0 ∧ 0 ≤ max x y)) none 0) N) x) y) = lineM N x y := by
  have key : stepS (decide (0 ≤ y ∧ y ≤ N)) (stepS (decide (0 ≤ x ∧ x ≤ N)) (stepS (decide (min x y ≤ N ∧ N ≤ max x y)) (stepS (decide (min x y ≤ 0 ∧ 0 ≤ max x y)) none 0) N) x) y
      = if min N (max x y) < max 0 (min x y) then none else some (max 0 (min x y), min N (max x y)) := by
    by_cases h1 : min x y ≤ 0 ∧ 0 ≤ max x y <;> by_cases h2 : min x y ≤ N ∧ N ≤ max x y <;> by_cases h3 : 0 ≤ x ∧ x ≤ N <;> by_cases h4 : 0 ≤ y ∧ y ≤ N <;>
      simp only [h1, h2, h3, h4, stepS, widS, decide_true, decide_false, if_true, Bool.false_eq_true, if_false, and_self] <;>
      split <;> first | omega | rfl | (refine congrArg some (Prod.ext ?_ ?_) <;> simp only <;> omega)
  rw [key]
  unfold lineM
  split
  · rfl
  · rfl

theorem clamp_on {e a b : P2} (h : a ≠ b) (k : On e a b) : clampT e a b = dtt a b e := by
  have := (on_iff h).mp k
  unfold clampT; omega
theorem opp_neg {A B : Int} (h : opp A B) : opp (-A) (-B) := by unfold opp at *; omega
theorem opp_swap {A B : Int} (h : opp A B) : opp B A := by unfold opp at *; omega
theorem crs_back (a b c : P2) : crs b a c = - crs a b c := by unfold crs; grind
theorem crs_left (a b : P2) : crs a b a = 0 := by unfold crs; grind
theorem crs_right (a b : P2) : crs a b b = 0 := by unfold crs; grind

theorem meet_line {a b c d : P2} (h : a ≠ b) (hc : crs a b c = 0) (hd : crs a b d = 0) : endsM a b c d = lineM (dd a b) (dtt a b c) (dtt a b d) := by
  have hN := dd_pos h
  rw [← lineS _ _ _ hN]
  have st : ∀ (e : P2) (B : Bool) (s : Option (Int × Int)), crs a b e = 0 → okS s → bothB a b c d e = B → stepM a b c d (toM (dd a b) s) e = toM (dd a b) (stepS B s (dtt a b e)) := by
    intro e B s he hs hb
    unfold stepM stepS
    rw [hb]
    cases B with
    | false => simp
    | true =>
      have hon := ((bothB_iff a b c d e).mp hb).1
      simp only [if_true]
      unfold footF
      rw [if_neg h, clamp_on h hon]
      exact wid_toM hN s _ hs
  have bo : ∀ e, crs a b e = 0 → bothB a b c d e = decide ((0 ≤ dtt a b e ∧ dtt a b e ≤ dd a b) ∧ (min (dtt a b c) (dtt a b d) ≤ dtt a b e ∧ dtt a b e ≤ max (dtt a b c) (dtt a b d))) := by
    intro e he
    rw [Bool.eq_iff_iff, bothB_iff, decide_eq_true_iff, on_iff h, on_line h hc hd he]
    simp [he]
  have ta : dtt a b a = 0 := by unfold dtt; grind
  have tb : dtt a b b = dd a b := by unfold dtt dd; grind
  have b1 := bo a (crs_left a b)
  have b2 := bo b (crs_right a b)
  have b3 := bo c hc
  have b4 := bo d hd
  rw [ta] at b1
  rw [tb] at b2
  unfold endsM
  have s0 : mt0 = toM (dd a b) none := rfl
  have o0 : okS none := trivial
  rw [s0, st a _ _ (crs_left a b) o0 rfl, st b _ _ (crs_right a b) (okS_step _ _ _ o0) rfl, st c _ _ hc (okS_step _ _ _ (okS_step _ _ _ o0)) rfl, st d _ _ hd (okS_step _ _ _ (okS_step _ _ _ (okS_step _ _ _ o0))) rfl, ta, tb, b1, b2, b3, b4]
  generalize dtt a b c = x at *
  generalize dtt a b d = y at *
  generalize dd a b = N at *
  have c1 : decide ((0 ≤ (0 : Int) ∧ 0 ≤ N) ∧ min x y ≤ 0 ∧ 0 ≤ max x y) = decide (min x y ≤ 0 ∧ 0 ≤ max x y) := by rw [decide_eq_decide]; omega
  have c2 : decide ((0 ≤ N ∧ N ≤ N) ∧ min x y ≤ N ∧ N ≤ max x y) = decide (min x y ≤ N ∧ N ≤ max x y) := by rw [decide_eq_decide]; omega
  have c3 : decide ((0 ≤ x ∧ x ≤ N) ∧ min x y ≤ x ∧ x ≤ max x y) = decide (0 ≤ x ∧ x ≤ N) := by rw [decide_eq_decide]; omega
  have c4 : decide ((0 ≤ y ∧ y ≤ N) ∧ min x y ≤ y ∧ y ≤ max x y) = decide (0 ≤ y ∧ y ≤ N) := by rw [decide_eq_decide]; omega
  rw [c1, c2, c3, c4]

theorem oppS_iff (A B : Int) : oppS A B = true ↔ (A < 0 ∧ 0 < B) ∨ (B < 0 ∧ 0 < A) := by unfold oppS; simp
theorem line_inside {a b c d : P2} (hc : crs a b c = 0) : insideM a b c d = mt0 := by
  unfold insideM
  have : oppS (crs a b c) (crs a b d) = false := by rw [Bool.eq_false_iff, Ne, oppS_iff]; omega
  simp [this]

theorem both_opp {a b c d e : P2} (h : a ≠ b) (hnl : ¬ (crs a b c = 0 ∧ crs a b d = 0)) (k : On e a b ∧ On e c d) :
    crs c d a ≠ crs c d b ∧ opp (crs c d a) (crs c d b) ∧ opp (crs a b c) (crs a b d) ∧ footF e a b = lowF (crs c d a) (crs c d a - crs c d b) := by
  obtain ⟨k1, k2⟩ := k
  have hcd : c ≠ d := by
    rintro rfl
    have := (on_same e c).mp k2
    subst this
    exact hnl ⟨k1.1, k1.1⟩
  have i1 := (on_iff h).mp k1
  have i2 := (on_iff hcd).mp k2
  have hN := dd_pos h
  have hM := dd_pos hcd
  have e1 := along_eq (a := a) (b := b) (c := c) (d := d) (e := e) k1.1 k2.1
  have e2 := along_eq (a := c) (b := d) (c := a) (d := b) (e := e) k2.1 k1.1
  have s := sides a b c d
  have hne : crs c d a ≠ crs c d b := by
    intro q
    have z : crs a b c - crs a b d = 0 := by omega
    rw [z, Int.mul_zero] at e2
    have : crs a b c = 0 := by rcases Int.mul_eq_zero.mp e2.symm with g | g <;> omega
    exact hnl ⟨this, by omega⟩
  refine ⟨hne, opp_of hN e1 i1.2.1 i1.2.2, opp_of hM e2 i2.2.1 i2.2.2, ?_⟩
  unfold footF
  rw [if_neg h, clamp_on h k1]
  exact lowF_eq (by omega) (by omega) e1

theorem meet_cross {a b c d : P2} (h : a ≠ b) (hnl : ¬ (crs a b c = 0 ∧ crs a b d = 0)) : meetM a b c d = crossM (crs c d a) (crs c d b) (crs a b c) (crs a b d) := by
  have he := ends_one (a := a) (b := b) (c := c) (d := d) (f := lowF (crs c d a) (crs c d a - crs c d b)) (fun e _ hb => (both_opp h hnl ((bothB_iff a b c d e).mp hb)).2.2.2)
  have s := sides a b c d
  unfold meetM
  by_cases hany : ∃ e, (e = a ∨ e = b ∨ e = c ∨ e = d) ∧ bothB a b c d e = true
  · obtain ⟨e, hm, hb⟩ := hany
    have t : (bothB a b c d a || bothB a b c d b || bothB a b c d c || bothB a b c d d) = true := by
      rcases hm with rfl | rfl | rfl | rfl <;> simp [hb]
    rw [t, if_pos rfl] at he
    rw [he, if_neg (one_ne _)]
    have hon := (bothB_iff a b c d e).mp hb
    obtain ⟨q1, q2, q3, _⟩ := both_opp h hnl hon
    unfold crossM
    rw [if_pos ⟨q1, (oppB_iff _ _).mpr q2, (oppB_iff _ _).mpr q3⟩]
    have z : ¬ (crs c d a ≠ 0 ∧ crs c d b ≠ 0 ∧ crs a b c ≠ 0 ∧ crs a b d ≠ 0) := by
      rcases hm with rfl | rfl | rfl | rfl
      · exact fun q => q.1 hon.2.1
      · exact fun q => q.2.1 hon.2.1
      · exact fun q => q.2.2.1 hon.1.1
      · exact fun q => q.2.2.2 hon.1.1
    rw [decide_eq_false z]
    rfl
  · have no : ∀ e, (e = a ∨ e = b ∨ e = c ∨ e = d) → bothB a b c d e = false := fun e hm => by
      rw [Bool.eq_false_iff]; exact fun q => hany ⟨e, hm, q⟩
    have t : (bothB a b c d a || bothB a b c d b || bothB a b c d c || bothB a b c d d) = false := by
      rw [no a (by simp), no b (by simp), no c (by simp), no d (by simp)]; rfl
    rw [t] at he
    rw [he]
    simp only [Bool.false_eq_true, if_false, if_true]
    have nb : ∀ e, (e = a ∨ e = b ∨ e = c ∨ e = d) → ¬ (On e a b ∧ On e c d) := fun e hm q => by
      have := no e hm; rw [(bothB_iff a b c d e).mpr q] at this; cases this
    unfold crossM insideM
    by_cases hq : crs c d a ≠ crs c d b ∧ oppB (crs c d a) (crs c d b) = true ∧ oppB (crs a b c) (crs a b d) = true
    · rw [if_pos hq]
      obtain ⟨q1, q2, q3⟩ := hq
      rw [oppB_iff] at q2 q3
      have za : crs c d a ≠ 0 := fun z => nb a (by simp) ⟨on_left a b, on_of_opp z q3 (by omega)⟩
      have zb : crs c d b ≠ 0 := fun z => nb b (by simp) ⟨on_right a b, on_of_opp (a := b) (b := a) z (by rw [crs_back a b c, crs_back a b d]; exact opp_neg q3) (by rw [crs_back a b c, crs_back a b d]; omega)⟩
      have zc : crs a b c ≠ 0 := fun z => nb c (by simp) ⟨on_of_opp (a := c) (b := d) z q2 q1, on_left c d⟩
      have zd : crs a b d ≠ 0 := fun z => nb d (by simp) ⟨on_of_opp (a := d) (b := c) z (by rw [crs_back c d a, crs_back c d b]; exact opp_neg q2) (by rw [crs_back c d a, crs_back c d b]; omega), on_right c d⟩
      have o1 : oppS (crs a b c) (crs a b d) = true := by rw [oppS_iff]; unfold opp at q3; omega
      have o2 : oppS (crs c d a) (crs c d b) = true := by rw [oppS_iff]; unfold opp at q2; omega
      rw [o1, o2, decide_eq_true (show crs c d a ≠ 0 ∧ crs c d b ≠ 0 ∧ crs a b c ≠ 0 ∧ crs a b d ≠ 0 from ⟨za, zb, zc, zd⟩)]
      simp
    · rw [if_neg hq]
      rw [if_neg]
      intro k
      rw [Bool.and_eq_true, oppS_iff, oppS_iff] at k
      refine hq ⟨by omega, (oppB_iff _ _).mpr (by unfold opp; omega), (oppB_iff _ _).mpr (by unfold opp; omega)⟩

theorem meet_point {a c d : P2} : meetM a a c d = if onP a c d then oneM (0, 1) else mt0 := by
  have he := ends_one (a := a) (b := a) (c := c) (d := d) (f := (0, 1)) (fun e _ _ => by unfold footF; simp)
  have ba : bothB a a c d a = onP a c d := by
    unfold bothB; rw [(onP_iff a a a).mpr ((on_same a a).mpr rfl)]; simp
  have bc : bothB a a c d c = true → onP a c d = true := fun k => by
    have := (bothB_iff a a c d c).mp k
    have e := (on_same c a).mp this.1
    subst e; exact (onP_iff _ _ _).mpr (on_left _ _)
  have bd : bothB a a c d d = true → onP a c d = true := fun k => by
    have := (bothB_iff a a c d d).mp k
    have e := (on_same d a).mp this.1
    subst e; exact (onP_iff _ _ _).mpr (on_right _ _)
  have hh : (bothB a a c d a || bothB a a c d a || bothB a a c d c || bothB a a c d d) = onP a c d := by
    rw [ba]
    cases ho : onP a c d with
    | true => simp
    | false =>
      have x : bothB a a c d c = false := by rw [Bool.eq_false_iff]; intro k; rw [bc k] at ho; cases ho
      have y : bothB a a c d d = false := by rw [Bool.eq_false_iff]; intro k; rw [bd k] at ho; cases ho
      rw [x, y]; rfl
  rw [hh] at he
  unfold meetM
  rw [he]
  cases ho : onP a c d with
  | true => simp [one_ne]
  | false => simp; exact line_inside (by unfold crs; grind)

theorem meet_eq (a b c d : P2) : meetM a b c d = meetT a b c d := by
  unfold meetT
  by_cases h : a = b
  · subst h; rw [if_pos rfl]; exact meet_point
  · rw [if_neg h]
    by_cases hl : crs a b c = 0 ∧ crs a b d = 0
    · rw [if_pos hl]
      have e := meet_line h hl.1 hl.2
      unfold meetM
      rw [line_inside hl.1]
      by_cases hz : endsM a b c d = mt0
      · rw [if_pos hz, ← hz, e]
      · rw [if_neg hz, e]
    · rw [if_neg hl]
      exact meet_cross h hl
end
end Go.Proofs.YtgcofpfjdplopaaGreat
