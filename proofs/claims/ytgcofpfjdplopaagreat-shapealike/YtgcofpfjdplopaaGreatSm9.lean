/- Shapes held against one another: slices.EqualFunc, shape.Same, the reference's Same. -/
import Derived.Test.YtgcofpfjdplopaaGreatEq9J
namespace Go.Proofs.YtgcofpfjdplopaaGreat
section
set_option linter.unusedSimpArgs false
open Go.RowKit Go.Sort

/-- A slice of points: where it lies, its capacity, its points. -/
abbrev Hole := Option Addr × Nat × List (Int × Int)
def hAt (H : List Hole) (i : Nat) : Hole := H.getD i (none, 0, [])
abbrev hv (h : Hole) : Value := .slice h.1 h.2.2.length h.2.1
/-- Slices of points that a slice reads. -/
def Hls (w : World) (ho : Option Addr) (H : List Hole) : Prop := ∀ i, i < H.length → ∃ b off, ho = some ⟨b, off, none⟩ ∧ w.cell? ⟨b, off + i, none⟩ = some (hv (hAt H i)) ∧ Pts w (hAt H i).1 (hAt H i).2.2
theorem Hls.mono {w w' : World} {ho : Option Addr} {H : List Hole} (h : Hls w ho H) (g : Below w.heap.size w w') : Hls w' ho H := fun i hi => by
  obtain ⟨b, off, e, c, p⟩ := h i hi
  exact ⟨b, off, e, below_cell c g, p.mono g⟩
def Few (H : List Hole) : Prop := ∀ i, (hAt H i).2.2.length ≤ 17592186043904
/-- The points of each. -/
def lst (H : List Hole) : List (List (Int × Int)) := H.map fun h => h.2.2
theorem lst_ext {H H' : List Hole} (hn : H.length = H'.length) (h : ∀ j, j < H.length → (hAt H j).2.2 = (hAt H' j).2.2) : lst H = lst H' := by
  refine List.ext_getElem (by simp [lst, hn]) fun i h1 h2 => ?_
  have h1' : i < H.length := by simpa [lst] using h1
  have h2' : i < H'.length := by simpa [lst] using h2
  have := h i h1'
  simpa [lst, hAt, List.getD, h1', h2'] using this
theorem lst_at {H H' : List Hole} (h : lst H = lst H') (j : Nat) (h1 : j < H.length) (h2 : j < H'.length) : (hAt H j).2.2 = (hAt H' j).2.2 := by
  have : (lst H)[j]? = (lst H')[j]? := by rw [h]
  simpa [lst, hAt, List.getD, h1, h2] using this
/-- A shape as a value. -/
abbrev shV (k : Int) (v : Hole) (ho : Option Addr) (hn hc : Nat) (s : Int) : Value := .agg #[.int .u8 k, hv v, .slice ho hn hc, .int .i32 s]
abbrev shC (k : Int) (v : Hole) (ho : Option Addr) (hn hc : Nat) (s : Int) : Array Value := #[.int .u8 k, hv v, .slice ho hn hc, .int .i32 s]
theorem Bl.four9 {w : World} {b t : Nat} {x y z v : Value} (h : Bl w b t #[x, y, z, v]) : w.cell? ⟨b, 0, none⟩ = some x ∧ w.cell? ⟨b, 1, none⟩ = some y ∧ w.cell? ⟨b, 2, none⟩ = some z ∧ w.cell? ⟨b, 3, none⟩ = some v :=
  ⟨h.cell rfl, h.cell rfl, h.cell rfl, h.cell rfl⟩
theorem two_new (w : World) (t u : Nat) (A B : Array Value) :
    Bl ((w.alloc (.cells A t)).alloc (.cells B u)) w.heap.size t A ∧ Bl ((w.alloc (.cells A t)).alloc (.cells B u)) (w.heap.size + 1) u B ∧ Gr w ((w.alloc (.cells A t)).alloc (.cells B u)) := by
  refine ⟨(Bl.new w t A).alloc _, ?_, ((Gr.refl w).alloc _).alloc _⟩
  have := Bl.new (w.alloc (.cells A t)) u B
  simpa using this

set_option maxRecDepth 20000 in
set_option maxHeartbeats 4000000 in
theorem equalFunc_any (ho ho' : Option Addr) (hc hc' : Nat) (H H' : List Hole) (hF : Few H) (w : World) (hl : H.length ≤ 281474976710656) (hQ : Hls w ho H) (hQ' : Hls w ho' H') :
    Calls Tryz.prog 51 #[.slice ho H.length hc, .slice ho' H'.length hc', .func (.func 50) #[] #[]] w fun e w' => e = .returned (.bool (decide (lst H = lst H'))) ∧ Gr w w' := by
  by_cases hn : H.length = H'.length
  · have HT : Hid ((∀ j, j < H.length → (hAt H j).2.2 = (hAt H' j).2.2) → decide (lst H = lst H') = true) := fun h => decide_eq_true (lst_ext hn h)
    have HF : Hid (∀ j, j < H.length → (hAt H j).2.2 ≠ (hAt H' j).2.2 → decide (lst H = lst H') = false) := fun j hj h => decide_eq_false (fun e => h (lst_at e j hj (by omega)))
    generalize decide (lst H = lst H') = R at *
    have HA := hid' hQ
    have HB : Hid (∀ i, i < H.length → ∃ b off, ho' = some ⟨b, off, none⟩ ∧ w.cell? ⟨b, off + i, none⟩ = some (hv (hAt H' i)) ∧ Pts w (hAt H' i).1 (hAt H' i).2.2) := fun i hi => hQ' i (by omega)
    have HFew := hid' hF
    rw [← hn]
    clear hQ hQ' hF hn
    go_enter Tryz.func51, Tryz.ntmps51
    go_wp2
    go_loopw [17] (fun i wr => ∃ k : Nat, k ≤ H.length ∧ i = .int .i64 k ∧ Hid (∀ j, j < k → (hAt H j).2.2 = (hAt H' j).2.2) ∧ Gr w wr) (fun i _ => H.length - (intOf i).toNat)
    case atStart => exact ⟨0, by omega, rfl, (by intro j hj; omega), Gr.refl _⟩
    case round =>
      obtain ⟨k, hk, rfl, hE, hG⟩ := hrel
      by_cases hlt : k < H.length
      · obtain ⟨b, off, rfl, p0, P1⟩ := HA.out k hlt
        obtain ⟨b2, off2, rfl, q0, P2⟩ := HB.out k hlt
        replace p0 := below_cell p0 hG.below
        replace q0 := below_cell q0 hG.below
        have EQ := hid' (equal_any (hAt H k).1 (hAt H' k).1 (hAt H k).2.1 (hAt H' k).2.1 (hAt H k).2.2 (hAt H' k).2.2 wr (by have := HFew.out k; omega) (P1.mono hG.below) (P2.mono hG.below))
        have HF' := hid' (HF.out k hlt)
        have HE' : Hid ((hAt H k).2.2 = (hAt H' k).2.2 → ∀ j, j < k + 1 → (hAt H j).2.2 = (hAt H' j).2.2) := fun e j hj => by
          by_cases c : j = k
          · subst c; exact e
          · exact hE.out j (by omega)
        clear HF hE P1 P2 HFew
        generalize hAt H k = A at *
        generalize hAt H' k = B at *
        by_cases e : A.2.2 = B.2.2
        · rw [decide_eq_true e] at EQ
          replace HE' := hid' (HE'.out e)
          clear HF' e
          go_wp2_with (go_at_call 50; refine EQ.out.mono ?_; rintro e w1 ⟨rfl, g1⟩)
          go_roundw
          case rel => exact ⟨k + 1, by omega, by go_num, HE', hG.trans g1⟩
          case measure => simp [intOf]; omega
        · rw [decide_eq_false e] at EQ
          have eF := hid' (HF'.out e)
          clear HF' HE' e HT
          go_wp2_with (go_at_call 50; refine EQ.out.mono ?_; rintro e w1 ⟨rfl, g1⟩)
          go_ret
          exact ⟨by rw [eF.out]; rfl, hG.trans g1⟩
      · obtain rfl : k = H.length := by omega
        have eT := hid' (HT.out hE.out)
        clear HT HF
        go_wp2
        go_ret
        exact ⟨by rw [eT.out]; rfl, hG⟩
  · have eF : decide (lst H = lst H') = false := decide_eq_false (fun e => hn (by have := congrArg List.length e; simpa [lst] using this))
    rw [eF]
    have hn' : ((H.length : Int) == (H'.length : Int)) = false := beq_eq_false_iff_ne.2 (by omega)
    clear hQ hQ' hF eF
    go_enter Tryz.func51, Tryz.ntmps51
    go_wp2
    go_ret
    exact ⟨rfl, Gr.refl _⟩

/-- Whether two shapes are alike. -/
def sameB (k s : Int) (v : Hole) (H : List Hole) (k' s' : Int) (v' : Hole) (H' : List Hole) : Bool := decide (k = k') && (decide (s = s') && (decide (v.2.2 = v'.2.2) && decide (lst H = lst H')))
set_option maxRecDepth 20000 in
set_option maxHeartbeats 4000000 in
theorem same_any (k s k' s' : Int) (v v' : Hole) (ho ho' : Option Addr) (hc hc' : Nat) (H H' : List Hole) (hv1 : v.2.2.length ≤ 17592186043904) (hF : Few H) (w : World) (hl : H.length ≤ 281474976710656) (hP : Pts w v.1 v.2.2) (hP' : Pts w v'.1 v'.2.2) (hQ : Hls w ho H) (hQ' : Hls w ho' H') :
    Calls Tryz.prog 22 #[shV k v ho H.length hc s, shV k' v' ho' H'.length hc' s'] w fun e w' => e = .returned (.bool (sameB k s v H k' s' v' H')) ∧ Gr w w' := by
  obtain ⟨kA, kB, g⟩ := two_new w 26 26 (shC k v ho H.length hc s) (shC k' v' ho' H'.length hc' s')
  have E1 : Hid (∀ W, Gr w W → Calls Tryz.prog 50 #[hv v, hv v'] W fun e w' => e = .returned (.bool (decide (v.2.2 = v'.2.2))) ∧ Gr W w') := fun W h => equal_any _ _ _ _ _ _ W (by omega) (hP.mono h.below) (hP'.mono h.below)
  have E2 : Hid (∀ W, Gr w W → Calls Tryz.prog 51 #[.slice ho H.length hc, .slice ho' H'.length hc', .func (.func 50) #[] #[]] W fun e w' => e = .returned (.bool (decide (lst H = lst H'))) ∧ Gr W w') := fun W h => equalFunc_any _ _ _ _ _ _ hF W hl (hQ.mono h.below) (hQ'.mono h.below)
  have HR : Hid (sameB k s v H k' s' v' H' = (decide (k = k') && (decide (s = s') && (decide (v.2.2 = v'.2.2) && decide (lst H = lst H'))))) := rfl
  generalize sameB k s v H k' s' v' H' = R at *
  generalize decide (v.2.2 = v'.2.2) = B1 at *
  generalize decide (lst H = lst H') = B2 at *
  have C1 : ((k == k') = true ∧ decide (k = k') = true) ∨ ((k == k') = false ∧ decide (k = k') = false) := by
    by_cases h : k = k'
    · exact .inl ⟨beq_iff_eq.2 h, decide_eq_true h⟩
    · exact .inr ⟨beq_eq_false_iff_ne.2 h, decide_eq_false h⟩
  have C2 : ((s == s') = true ∧ decide (s = s') = true) ∨ ((s == s') = false ∧ decide (s = s') = false) := by
    by_cases h : s = s'
    · exact .inl ⟨beq_iff_eq.2 h, decide_eq_true h⟩
    · exact .inr ⟨beq_eq_false_iff_ne.2 h, decide_eq_false h⟩
  clear hP hP' hQ hQ' hF hv1 hl
  generalize decide (k = k') = D1 at *
  generalize decide (s = s') = D2 at *
  generalize v.2.2.length = n1 at *
  generalize v'.2.2.length = n2 at *
  generalize H.length = n3 at *
  generalize H'.length = n4 at *
  rcases C1 with ⟨b1, rfl⟩ | ⟨b1, rfl⟩
  · rcases C2 with ⟨b2, rfl⟩ | ⟨b2, rfl⟩
    · cases B1 <;> cases B2
      all_goals
        have eR := HR.out
        simp only [Bool.true_and, Bool.false_and, Bool.and_true, Bool.and_false] at eR
        replace eR := hid' eR
        clear HR
        go_enter Tryz.func22, Tryz.ntmps22
        go_wp2_with (first
          | (go_at_call 50; refine (E1.out _ g).mono ?_; rintro e w1 ⟨rfl, g1⟩; obtain ⟨_, _, x2, _⟩ := (kA.gr g1).four9; obtain ⟨_, _, y2, _⟩ := (kB.gr g1).four9)
          | (go_at_call 51; refine (E2.out _ (g.trans g1)).mono ?_; rintro e w2 ⟨rfl, g2⟩))
        go_ret
        first
          | exact ⟨by rw [eR.out]; rfl, (g.trans g1).trans g2⟩
          | exact ⟨by rw [eR.out]; rfl, g.trans g1⟩
    · have eR := HR.out
      simp only [Bool.true_and, Bool.false_and] at eR
      replace eR := hid' eR
      clear HR
      go_enter Tryz.func22, Tryz.ntmps22
      go_wp2
      go_ret
      exact ⟨by rw [eR.out]; rfl, g⟩
  · have eR := HR.out
    simp only [Bool.false_and] at eR
    replace eR := hid' eR
    clear HR
    go_enter Tryz.func22, Tryz.ntmps22
    go_wp2
    go_ret
    exact ⟨by rw [eR.out]; rfl, g⟩
end
end Go.Proofs.YtgcofpfjdplopaaGreat
