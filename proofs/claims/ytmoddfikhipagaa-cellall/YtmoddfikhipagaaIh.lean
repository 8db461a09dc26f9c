/- The law's in and has. -/
import Derived.Test.YtmoddfikhipagaaCvW
set_option linter.unusedSimpArgs false
set_option linter.unusedVariables false
namespace Go.Proofs.Ytmoddfikhipagaa
open Go.RowKit Go.Sort Go.Shelf

def hasB (a b c d x y : Int) : Bool := decide (a ≤ x) && decide (x ≤ c) && decide (b ≤ y) && decide (y ≤ d)

set_option maxHeartbeats 4000000 in
theorem has_any (a b c d x y : Int) (w : World) : Calls Try.prog 26 #[bx a b c d, pt x y] w fun e w' => e = .returned (.bool (hasB a b c d x y)) ∧ Gr w w' := by
  have k0 := (Bk.new w 25 [.int .i32 a, .int .i32 b, .int .i32 c, .int .i32 d]).alloc (.cells #[.int .i32 x, .int .i32 y] 23)
  have k1 := Bk.new (w.alloc (.cells #[.int .i32 a, .int .i32 b, .int .i32 c, .int .i32 d] 25)) 23 [.int .i32 x, .int .i32 y]
  have gW : Gr w ((w.alloc (.cells #[.int .i32 a, .int .i32 b, .int .i32 c, .int .i32 d] 25)).alloc (.cells #[.int .i32 x, .int .i32 y] 23)) := ((Gr.refl _).alloc _).alloc _
  rw [World.size_alloc] at k1
  have E : hasB a b c d x y = (decide (a ≤ x) && decide (x ≤ c) && decide (b ≤ y) && decide (y ≤ d)) := rfl
  generalize hasB a b c d x y = R at *
  go_enter Try.func26, Try.ntmps26
  go_upto_region 1 with fail
  generalize (w.alloc (.cells #[.int .i32 a, .int .i32 b, .int .i32 c, .int .i32 d] 25)).alloc (.cells #[.int .i32 x, .int .i32 y] 23) = W at *
  obtain ⟨p0, p1, p2, p3⟩ := k0.four
  obtain ⟨q0, q1⟩ := k1.two
  have HE := hid0 E
  clear E
  by_cases h1 : a ≤ x
  · by_cases h2 : x ≤ c
    · by_cases h3 : b ≤ y
      · by_cases h4 : y ≤ d
        · have e : R = true := by rw [HE.out]; simp [h1, h2, h3, h4]
          subst e
          clear HE
          have h1' : x ≥ a := h1
          have h3' : y ≥ b := h3
          go_wp2
          go_ret
          exact ⟨rfl, gW⟩
        · have e : R = false := by rw [HE.out]; simp [h4]
          subst e
          clear HE
          have h1' : x ≥ a := h1
          have h3' : y ≥ b := h3
          go_wp2
          go_ret
          exact ⟨rfl, gW⟩
      · have e : R = false := by rw [HE.out]; simp [h3]
        subst e
        clear HE
        have h1' : x ≥ a := h1
        have h3' : ¬ y ≥ b := h3
        go_wp2
        go_ret
        exact ⟨rfl, gW⟩
    · have e : R = false := by rw [HE.out]; simp [h2]
      subst e
      clear HE
      have h1' : x ≥ a := h1
      go_wp2
      go_ret
      exact ⟨rfl, gW⟩
  · have e : R = false := by rw [HE.out]; simp [h1]
    subst e
    clear HE
    have h1' : ¬ x ≥ a := h1
    go_wp2
    go_ret
    exact ⟨rfl, gW⟩

theorem mem_getD {l : List C2} {c : C2} (h : ∃ j, j < l.length ∧ l.getD j (0, 0) = c) : c ∈ l := by
  obtain ⟨j, hj, e⟩ := h
  rw [← e, List.getD_eq_getElem?_getD, List.getElem?_eq_getElem hj]
  exact List.getElem_mem hj
theorem getD_mem {l : List C2} {c : C2} (h : c ∈ l) : ∃ j, j < l.length ∧ l.getD j (0, 0) = c := by
  obtain ⟨j, hj, e⟩ := List.getElem_of_mem h
  refine ⟨j, hj, ?_⟩
  rw [List.getD_eq_getElem?_getD, List.getElem?_eq_getElem hj]
  exact e

set_option maxRecDepth 20000 in
set_option maxHeartbeats 4000000 in
theorem in28_any (ao : Option Addr) (ca : Nat) (l : List C2) (c : C2) (w : World) (hl : l.length ≤ 281474976710656) (ha : Pts w ao l) :
    Calls Try.prog 28 #[.slice ao l.length ca, cv c] w fun e w' => e = .returned (.bool (decide (c ∈ l))) ∧ Gr w w' := by
  have HA := hid0 ha
  clear ha
  have HT : Hid (∀ j, j < l.length → l.getD j (0, 0) = c → decide (c ∈ l) = true) := fun j hj e => decide_eq_true (mem_getD ⟨j, hj, e⟩)
  have HF : Hid ((∀ j, j < l.length → l.getD j (0, 0) ≠ c) → decide (c ∈ l) = false) := fun h => decide_eq_false (fun hm => by obtain ⟨j, hj, e⟩ := getD_mem hm; exact h j hj e)
  generalize decide (c ∈ l) = R at *
  have k0 := Bk.new w 26 [.int .i32 c.1, .int .i32 c.2]
  have gW : Gr w (w.alloc (.cells #[.int .i32 c.1, .int .i32 c.2] 26)) := (Gr.refl _).alloc _
  go_enter Try.func28, Try.ntmps28
  go_upto_region 1 with fail
  generalize w.alloc (.cells #[.int .i32 c.1, .int .i32 c.2] 26) = W at *
  go_wp2
  go_loopw [5] (fun i wr => ∃ k : Nat, k ≤ l.length ∧ i = .int .i64 k ∧ Hid (∀ j, j < k → l.getD j (0, 0) ≠ c) ∧ Gr w wr ∧ Bk wr w.heap.size 26 [.int .i32 c.1, .int .i32 c.2]) (fun i _ => l.length - (intOf i).toNat)
  case atStart => exact ⟨0, by omega, rfl, (by intro j hj; omega), gW, k0⟩
  case round =>
    clear k0 gW
    obtain ⟨k, hk, rfl, hE, hG, k0⟩ := hrel
    obtain ⟨q0, q1⟩ := k0.two
    by_cases hlt : k < l.length
    · obtain ⟨b, off, rfl, p0, p1⟩ := HA.out k hlt
      replace p0 := below_cell p0 hG.below
      replace p1 := below_cell p1 hG.below
      have C := pair_cases (l.getD k (0, 0)) c
      have HT' := hid0 (HT.out k hlt)
      have HE' : Hid (l.getD k (0, 0) ≠ c → ∀ j, j < k + 1 → l.getD j (0, 0) ≠ c) := fun e j hj => by
        by_cases h : j = k
        · subst h; exact e
        · exact hE.out j (by omega)
      clear HT hE
      have HK := hid0 k0
      clear k0
      generalize (l.getD k (0, 0)).1 = X at *
      generalize (l.getD k (0, 0)).2 = Y at *
      generalize hX' : c.1 = X' at *
      generalize hY' : c.2 = Y' at *
      clear hX' hY'
      rcases C with ⟨e, rfl, rfl⟩ | ⟨e, b1, b2⟩ | ⟨e, b1⟩
      · have eT := hid0 (HT'.out e)
        clear HT' HE' e HF
        go_wp2
        go_region
        go_wp2
        go_ret
        exact ⟨by rw [eT.out]; rfl, hG.drew⟩
      all_goals
        replace HE' := hid0 (HE'.out e)
        clear HT' e HF
        go_wp2
        go_region
        go_wp2
        go_roundw
        case rel => exact ⟨k + 1, by omega, by go_num, HE', hG.drew, HK.out.gr (Gr.refl _).drew⟩
        case measure => simp [intOf]; omega
    · obtain rfl : k = l.length := by omega
      have eF := hid0 (HF.out hE.out)
      clear HT HF
      go_wp2
      go_ret
      exact ⟨by rw [eF.out]; rfl, hG⟩
end Go.Proofs.Ytmoddfikhipagaa
