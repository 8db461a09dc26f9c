/- The reference's tree in memory; its Right, Meet and place. -/
import Derived.Test.YtpikhdfndnpidaaTd
import Derived.Laws.OwnMore
set_option linter.unusedSimpArgs false
set_option linter.unusedVariables false
namespace Go.Proofs.Ytpikhdfndnpidaa
open Go.RowKit Go.Sort Go.Shelf

set_option maxHeartbeats 1000000 in
theorem rright_any (a b c d : Int) (w : World) : Calls Try.prog 34 #[bx a b c d] w fun e w' => e = .returned (.bool (rgB a b c d)) ∧ Gr w w' := by
  go_enter Try.func34, Try.ntmps34
  go_wp2
  all_goals (go_ret; refine ⟨congrArg (fun z => Ending.returned (.bool z)) ?_, (Gr.refl _).alloc _⟩; simp [rgB]; omega)
theorem meet_apart (a0 a1 a2 a3 b0 b1 b2 b3 : Int) : meetB a0 a1 a2 a3 b0 b1 b2 b3 = (rgB a0 a1 a2 a3 && rgB b0 b1 b2 b3 && !(decide (a2 < b0) || decide (b2 < a0) || decide (a3 < b1) || decide (b3 < a1))) := by
  unfold meetB rgB maxI minI
  grind
set_option maxRecDepth 20000 in
set_option maxHeartbeats 4000000 in
theorem rmeet_any (a0 a1 a2 a3 b0 b1 b2 b3 : Int) (w : World) :
    Calls Try.prog 42 #[bx a0 a1 a2 a3, bx b0 b1 b2 b3] w fun e w' => e = .returned (.bool (meetB a0 a1 a2 a3 b0 b1 b2 b3)) ∧ Gr w w' := by
  have E : Hid (meetB a0 a1 a2 a3 b0 b1 b2 b3 = (rgB a0 a1 a2 a3 && rgB b0 b1 b2 b3 && !(decide (a2 < b0) || decide (b2 < a0) || decide (a3 < b1) || decide (b3 < a1)))) := meet_apart ..
  have R1 := hid0 (rright_any a0 a1 a2 a3)
  have R2 := hid0 (rright_any b0 b1 b2 b3)
  generalize rgB a0 a1 a2 a3 = r1 at *
  generalize rgB b0 b1 b2 b3 = r2 at *
  obtain ⟨X, hX⟩ : ∃ X, X = (decide (a2 < b0) || decide (b2 < a0) || decide (a3 < b1) || decide (b3 < a1)) := ⟨_, rfl⟩
  rw [← hX] at E
  have HX := hid0 hX
  clear hX
  obtain ⟨W, hW, hG, k0, k1⟩ := two_boxes w a0 a1 a2 a3 b0 b1 b2 b3
  go_enter Try.func42, Try.ntmps42
  go_upto_region 1 with fail
  rw [← hW]
  clear hW
  obtain ⟨y0, y1, y2, y3⟩ := k0.four
  obtain ⟨z0, z1, z2, z3⟩ := k1.four
  generalize hB : w.heap.size = B at *
  clear hB
  go_cut [5] (fun v w1 => v = .bool X ∧ w1 = W)
  case first =>
    by_cases c1 : a2 < b0
    · have : X = true := by rw [HX.out]; simp [c1]
      subst this
      go_wp2
      go_meet
      exact ⟨rfl, rfl⟩
    · by_cases c2 : b2 < a0
      · have : X = true := by rw [HX.out]; simp [c2]
        subst this
        go_wp2
        go_meet
        exact ⟨rfl, rfl⟩
      · by_cases c3 : a3 < b1
        · have : X = true := by rw [HX.out]; simp [c3]
          subst this
          go_wp2
          go_meet
          exact ⟨rfl, rfl⟩
        · by_cases c4 : b3 < a1
          · have : X = true := by rw [HX.out]; simp [c4]
            subst this
            go_wp2
            go_meet
            exact ⟨rfl, rfl⟩
          · have : X = false := by rw [HX.out]; simp [c1, c2, c3, c4]
            subst this
            go_wp2
            go_meet
            exact ⟨rfl, rfl⟩
  case rest =>
    obtain ⟨rfl, hw⟩ := hcut
    cases hw
    clear HX
    cases r1
    · go_wp2_with (go_at_call 34; refine (R1.out _).mono ?_; rintro e w1 ⟨rfl, h1⟩)
      go_ret
      exact ⟨by rw [E.out]; rfl, hG.trans h1⟩
    · go_wp2_with fail
      refine (R1.out _).mono ?_
      rintro e w1 ⟨rfl, h1⟩
      obtain ⟨u0, u1, u2, u3⟩ := (k1.gr h1).four
      clear R1 y0 y1 y2 y3 z0 z1 z2 z3
      cases r2
      · go_wp2_with (go_at_call 34; refine (R2.out _).mono ?_; rintro e w2 ⟨rfl, h2⟩)
        go_ret
        exact ⟨by rw [E.out]; rfl, (hG.trans h1).trans h2⟩
      · go_wp2_with (go_at_call 34; refine (R2.out _).mono ?_; rintro e w2 ⟨rfl, h2⟩)
        go_ret
        exact ⟨by rw [E.out]; cases X <;> rfl, (hG.trans h1).trans h2⟩
/-- The cells of the boxes of a list. -/
def boxC : List E → List Value
  | [] => []
  | x :: l => .int .i32 x.2.1 :: .int .i32 x.2.2.1 :: .int .i32 x.2.2.2.1 :: .int .i32 x.2.2.2.2 :: boxC l
theorem boxC_len (l : List E) : (boxC l).length = l.length * 4 := by
  induction l with
  | nil => rfl
  | cons x l ih => simp [boxC, ih]; omega
theorem boxC_append (l m : List E) : boxC (l ++ m) = boxC l ++ boxC m := by
  induction l with
  | nil => rfl
  | cons x l ih => simp [boxC, ih]
theorem boxC_at (l : List E) (k : Nat) (x : E) (h : l[k]? = some x) : (boxC l)[k * 4]? = some (.int .i32 x.2.1) ∧ (boxC l)[k * 4 + 1]? = some (.int .i32 x.2.2.1) ∧ (boxC l)[k * 4 + 2]? = some (.int .i32 x.2.2.2.1) ∧ (boxC l)[k * 4 + 3]? = some (.int .i32 x.2.2.2.2) := by
  induction l generalizing k with
  | nil => cases h
  | cons y l ih =>
    cases k with
    | zero => simp at h; subst h; simp [boxC]
    | succ k =>
      have := ih k (by simpa using h)
      rw [show (k + 1) * 4 = k * 4 + 4 by omega]
      simpa [boxC] using this
abbrev idC (l : List E) : List Value := l.map (fun x => Value.int .u32 x.1)
/-- The reference in block R holds the list l. -/
def RefIs (w : World) (base R : Nat) (l : List E) : Prop := base ≤ R ∧ ∃ iv bw, Bk w R 29 [iv, bw] ∧ w.ownsRow base 32 1 iv l.length (idC l) ∧ w.ownsRow base 36 4 bw l.length (boxC l)
theorem RefIs.below {w w' : World} {base R : Nat} {l : List E} (h : RefIs w base R l) (g : Below w.heap.size w w') : RefIs w' base R l := by
  obtain ⟨hb, iv, bw, k, h1, h2⟩ := h
  have kp : ∀ {v : Value} {e s n : Nat} {xs : List Value}, w.ownsRow base e s v n xs → w'.ownsRow base e s v n xs := fun {v e s n xs} h => by
    rcases h.2 with ⟨e1, h0⟩ | ⟨g1, cap, cur, e1, hb1, hc, hr⟩
    · exact ⟨h.1, .inl ⟨e1, h0⟩⟩
    · exact ⟨h.1, .inr ⟨g1, cap, cur, e1, hb1, (g.block g1 (lt_of_block hc)).trans hc, hr⟩⟩
  exact ⟨hb, iv, bw, k.mono g k.lt, kp h1, kp h2⟩
theorem RefIs.gr {w w' : World} {base R : Nat} {l : List E} (h : RefIs w base R l) (g : Gr w w') : RefIs w' base R l := h.below g.below
/-- How many numbers lie below k. -/
def posL (k : Int) (l : List E) : Nat := (l.filter (fun x => decide (x.1 < k))).length
theorem posL_eq {k : Int} {l : List E} {m : Nat} (hm : m ≤ l.length) (h1 : ∀ j x, l[j]? = some x → j < m → x.1 < k) (h2 : ∀ j x, l[j]? = some x → m ≤ j → ¬ x.1 < k) : posL k l = m := by
  induction l generalizing m with
  | nil => simp at hm; subst hm; rfl
  | cons y l ih =>
    cases m with
    | zero =>
      have hy : ¬ y.1 < k := h2 0 y rfl (by omega)
      have := ih (m := 0) (by omega) (fun j x hx hj => by omega) (fun j x hx _ => h2 (j + 1) x (by simpa using hx) (by omega))
      unfold posL at *
      rw [List.filter_cons, if_neg (by simpa using hy)]
      exact this
    | succ m =>
      have hy : y.1 < k := h1 0 y rfl (by omega)
      have := ih (m := m) (by simp at hm; omega) (fun j x hx hj => h1 (j + 1) x (by simpa using hx) (by omega)) (fun j x hx hj => h2 (j + 1) x (by simpa using hx) (by omega))
      unfold posL at *
      rw [List.filter_cons, if_pos (by simpa using hy), List.length_cons, this]
theorem srt_lt {l : List E} (s : PT.Srt l) {i j : Nat} {x y : E} (hx : l[i]? = some x) (hy : l[j]? = some y) (h : i < j) : x.1 < y.1 := by
  obtain ⟨h1, rfl⟩ := List.getElem?_eq_some_iff.1 hx
  obtain ⟨h2, rfl⟩ := List.getElem?_eq_some_iff.1 hy
  exact List.pairwise_iff_getElem.1 s i j h1 h2 h
end Go.Proofs.Ytpikhdfndnpidaa
