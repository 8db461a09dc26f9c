/- Floating-point words up to which of the words it is that are no number: operations as functions, and the walk's laws of them. -/
import Derived.Test.YtgdmbcfjjdngdaaDoorSumP
import Derived.Test.YtgdmbcfjjdngdaaDoorBa
import Derived.WalkLawsBesides
namespace Go.Proofs.YtgdmbcfjjdngdaaDoor
open Go.RowKit Go.Sort Ieee

theorem cut_nan (x y t : Nat) : isN ((Question.nanBits .f64 x y).cut t) ∧ (Question.nanBits .f64 x y).cut t < 18446744073709551616 := by
  show isN ((t % 2) * 2 ^ 63 + 0x7ff0000000000000 + 1 + (t / 2) % (2 ^ 52 - 1)) ∧ (t % 2) * 2 ^ 63 + 0x7ff0000000000000 + 1 + (t / 2) % (2 ^ 52 - 1) < 18446744073709551616
  unfold isN
  have h1 : t % 2 < 2 := Nat.mod_lt _ (by decide)
  have h2 : (t / 2) % (2 ^ 52 - 1) < 2 ^ 52 - 1 := Nat.mod_lt _ (by decide)
  generalize (t / 2) % (2 ^ 52 - 1) = u at *
  generalize t % 2 = v at *
  rcases (show v = 0 ∨ v = 1 from by omega) with rfl | rfl <;> omega

/-- An operation on two words: one word for all that are no number. -/
def fo (op : BinOp) (a b : Nat) : Nat := (floatBits op .f64 a b).getD 9221120237041090561
/-- r is the word x, or none of the two is a number. -/
def V (r x : Nat) : Prop := r < 18446744073709551616 ∧ x < 18446744073709551616 ∧ sim r x
theorem fo_arR (op : BinOp) (a b : Nat) : arR op a b (fo op a b) := by
  unfold fo
  cases h : floatBits op .f64 a b with
  | none => exact .inr ⟨h, by show isN 9221120237041090561; decide, by show (9221120237041090561 : Nat) < _; decide⟩
  | some c => exact .inl h
theorem fo_lt (op : BinOp) (a b : Nat) : fo op a b < 18446744073709551616 := arR_lt (fo_arR op a b)
theorem V.refl {a : Nat} (h : a < 18446744073709551616) : V a a := ⟨h, h, .inl rfl⟩
theorem V.fo {op : BinOp} {a b r A B : Nat} (h : arR op a b r) (ha : V a A) (hb : V b B) : V r (fo op A B) :=
  ⟨arR_lt h, fo_lt _ _ _, arR_sim h (fo_arR op A B) ha.2.2 hb.2.2⟩
theorem sim.symm {a b : Nat} (h : sim a b) : sim b a := by rcases h with h | h; exact .inl h.symm; exact .inr ⟨h.2, h.1⟩
theorem sim.trans {a b c : Nat} (h : sim a b) (k : sim b c) : sim a c := by
  rcases h with rfl | ⟨h1, h2⟩
  · exact k
  · rcases k with rfl | ⟨_, k2⟩
    · exact .inr ⟨h1, h2⟩
    · exact .inr ⟨h1, k2⟩
theorem V.both {a b x : Nat} (h : V a x) (k : V b x) : sim a b := h.2.2.trans k.2.2.symm
theorem V.nan {a x : Nat} (h : V a x) : isN a ↔ isN x := by
  rcases h.2.2 with rfl | ⟨h1, h2⟩
  · exact Iff.rfl
  · exact ⟨fun _ => h2, fun _ => h1⟩
theorem V.order {a b A B : Nat} (h : V a A) (k : V b B) : double.order a b = double.order A B := by
  rcases h.2.2 with rfl | ⟨h1, h2⟩
  · rcases k.2.2 with rfl | ⟨k1, k2⟩
    · rfl
    · rw [order_nan_r _ k1, order_nan_r _ k2]
  · rw [order_nan_l _ h1, order_nan_l _ h2]
theorem V.eq {a x : Nat} (h : V a x) (hx : ¬ isN x) : a = x := by
  rcases h.2.2 with h | ⟨_, h⟩
  · exact h
  · exact absurd h hx

theorem run_fl (op : BinOp) (hop : op = .add ∨ op = .sub ∨ op = .mul ∨ op = .quo) (a b : Nat) (w : World) :
    ∃ r n, (Op.floatArith op .f64 a b).run Tryd.prog w = .ok (.float .f64 r) (w.drewN n) ∧ arR op a b r := by
  cases h : floatBits op .f64 a b with
  | some r => exact ⟨r, 0, run_floatArith w h, .inl h⟩
  | none =>
    refine ⟨(Question.nanBits .f64 a b).cut (w.tape w.drawn (.nanBits .f64 a b)), 1, ?_, .inr ⟨h, (cut_nan _ _ _).1, (cut_nan _ _ _).2⟩⟩
    rw [← World.drew_is_drewN]
    unfold floatBits at h
    rcases hop with rfl | rfl | rfl | rfl <;> simp only at h <;> simp [Op.floatArith, h] <;> intro hf <;> cases hf
theorem run_ar (op : BinOp) (hop : op = .add ∨ op = .sub ∨ op = .mul ∨ op = .quo) (a b : Nat) (w : World) :
    ∃ r n, (binOp op 29 (.float .f64 a) (.float .f64 b)).run Tryd.prog w = .ok (.float .f64 r) (w.drewN n) ∧ arR op a b r := by
  obtain ⟨r, n, h1, h2⟩ := run_fl op hop a b w
  refine ⟨r, n, ?_, h2⟩
  rcases hop with rfl | rfl | rfl | rfl <;> simpa [binOp] using h1
/-- The walk's laws of both. -/
theorem wpList_fl (w : World) {ops : Array Oper} {rest : List Oper} {o : Oper} {a : Act} {Q : Exit → Act → World → Prop}
    (hg : o.guard = none) (op : BinOp) (hop4 : op = .add ∨ op = .sub ∨ op = .mul ∨ op = .quo) (x y : Operand) (hop : o.op = Op.binOp op 29 x y 29) (p q : Nat) (hx : a.eval x = .float .f64 p) (hy : a.eval y = .float .f64 q)
    {A B : Nat} (hA : V p A) (hB : V q B)
    (hK : ∀ r n, V r (fo op A B) → wpList Tryd.prog ops Q rest (a.put o.dst (.float .f64 r)) (w.drewN n)) : wpList Tryd.prog ops Q (o :: rest) a w := by
  refine wpList_plain hg fun K hK' => ?_
  obtain ⟨r, n, hrun, h1⟩ := run_ar op hop4 p q w
  unfold Oper.wp
  rcases hop4 with rfl | rfl | rfl | rfl <;> simp [execOp, hop, hx, hy, eqGuard, hrun, Result.andThen] <;> exact hK' _ _ (hK r n (V.fo h1 hA hB))
end Go.Proofs.YtgdmbcfjjdngdaaDoor
