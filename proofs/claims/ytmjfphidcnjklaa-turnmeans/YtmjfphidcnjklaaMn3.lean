/- Plain: the mean of ones is 1. -/
import Derived.Test.YtmjfphidcnjklaaMn1
import Derived.Test.YtmjfphidcnjklaaEr8
set_option linter.unusedSimpArgs false
namespace Go.Proofs.Ytmjfphidcnjklaa
open Go.RowKit Go.Sort Ieee

/-- A list whose first n are all (1, 0). -/
def Ones (l : List (Nat × Nat)) : Prop := ∀ i, i < l.length → l.getD i (0, 0) = (4607182418800017408, 0)
theorem fo_00 : fo .add 0 0 = 0 := by decide
theorem ones_sum {l : List (Nat × Nat)} (h : Ones l) (hl : l.length ≤ 8796093022208) : ∀ k, k ≤ l.length → Fl (SR l k) (k : Int) ∧ SI l k = 0
  | 0, _ => ⟨⟨fin_0, by show sgI 0 = _; rw [sg_0]; simp⟩, rfl⟩
  | k + 1, hk => by
    obtain ⟨a, b⟩ := ones_sum h hl k (by omega)
    have e : l.getD k (0, 0) = (4607182418800017408, 0) := h k (by omega)
    refine ⟨?_, ?_⟩
    · show Fl (fo .add (SR l k) (l.getD k (0, 0)).1) _
      rw [e]
      have := a.foAdd fl_one (by omega)
      simpa using this
    · show fo .add (SI l k) (l.getD k (0, 0)).2 = 0
      rw [e, b]
      exact fo_00
theorem ones_mean {l : List (Nat × Nat)} (h : Ones l) (hl : l.length ≤ 8796093022208) (h0 : 0 < l.length) : Fl (mnR (SR l l.length) (SI l l.length)) 1 ∧ Fl (mnI (SR l l.length) (SI l l.length)) 0 := by
  obtain ⟨a, b⟩ := ones_sum h hl l.length (Nat.le_refl _)
  rw [b]
  generalize SR l l.length = X at *
  generalize l.length = n at *
  have o := one_gt
  have pos : 0 < sgI X := by rw [a.2]; exact Int.mul_pos (by omega) (by omega)
  have nX : ¬ isN X := by have := a.1; unfold fin at this; unfold isN; omega
  have X0 : z0B X = false := by
    unfold z0B
    rcases ord0 a.1.1 nX with ⟨e, c⟩ | ⟨e, c⟩ | ⟨e, c⟩
    · omega
    · omega
    · rw [e]; rfl
  have b1 : bdd X = true := by unfold bdd; exact decide_eq_true a.1.2
  have b2 : bdd 0 = true := by decide
  have g : goodB X 0 = true := by unfold goodB; rw [X0, b1, b2]; rfl
  obtain ⟨⟨p1, p2⟩, c, hc, c2, hv⟩ := sqrt_foi h0 hl
  have m1 : fo .mul X X = floatOfInt .f64 ((n : Int) * (n : Int)) := fo_some (mul_foi a a (by omega) (by omega))
  have m2 : fo .mul 0 0 = 0 := fo_some mul_00
  have fP : fin (floatOfInt .f64 ((n : Int) * (n : Int))) := ⟨by omega, by omega⟩
  have sq : sqF X 0 = floatOfInt .f64 ((n : Int) * (n : Int)) := by
    unfold sqF
    rw [m1, m2]
    obtain ⟨_, e⟩ := sg_add fP fin_0 sg_0
    exact pos_eq p2 p1 e
  have rt : rtF (sqF X 0) = c := by rw [sq]; unfold rtF; rw [hc]; rfl
  have cX : sgI c = (n : Int) * (one1 : Int) := by
    unfold sgI
    rw [if_pos (by omega), hv, Int.natCast_mul]
  have fc : fin c := ⟨by omega, by omega⟩
  have cp : 0 < sgI c := by rw [cX, ← a.2]; exact pos
  unfold mnR mnI
  rw [g, if_pos rfl, if_pos rfl, rt]
  exact ⟨sg_quo a.1 fc (.inr (.inr rfl)) cp (by rw [cX, a.2, Int.one_mul]), sg_quo fin_0 fc (.inr (.inl rfl)) cp (by rw [sg_0, Int.zero_mul])⟩
theorem Fl.num {x : Nat} {n : Int} (h : Fl x n) : ¬ isN x := by have := h.1; unfold fin at this; unfold isN; omega
theorem Fl.ord {x y : Nat} {n : Int} (h : Fl x n) (k : Fl y n) : FloatKind.f64.format.order x y = some .eq := by
  show double.order x y = _
  rw [order_fin h.1 k.1, h.2, k.2]
  simp
end Go.Proofs.Ytmjfphidcnjklaa
