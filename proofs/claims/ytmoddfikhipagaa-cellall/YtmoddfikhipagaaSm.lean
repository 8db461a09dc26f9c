/- The law's same: two lists of cells, cell by cell. -/
import Derived.Test.YtmoddfikhipagaaLn
set_option linter.unusedSimpArgs false
set_option linter.unusedVariables false
namespace Go.Proofs.Ytmoddfikhipagaa
open Go.RowKit Go.Sort

theorem pair_cases (p q : C2) : (p = q ∧ p.1 = q.1 ∧ p.2 = q.2) ∨ (p ≠ q ∧ (p.1 == q.1) = true ∧ (p.2 == q.2) = false) ∨ (p ≠ q ∧ (p.1 == q.1) = false) := by
  by_cases h1 : p.1 = q.1
  · by_cases h2 : p.2 = q.2
    · exact .inl ⟨Prod.ext h1 h2, h1, h2⟩
    · exact .inr (.inl ⟨fun e => h2 (by rw [e]), beq_iff_eq.2 h1, beq_eq_false_iff_ne.2 h2⟩)
  · exact .inr (.inr ⟨fun e => h1 (by rw [e]), beq_eq_false_iff_ne.2 h1⟩)
theorem ext_getD {l m : List C2} (hn : l.length = m.length) (h : ∀ j, j < l.length → l.getD j (0, 0) = m.getD j (0, 0)) : l = m := by
  refine List.ext_getElem hn fun i h1 h2 => ?_
  have := h i h1
  simpa [List.getD, h1, h2] using this
set_option maxRecDepth 20000 in
set_option maxHeartbeats 4000000 in
theorem same_any (ao bo : Option Addr) (ca cb : Nat) (l m : List C2) (w : World) (hl : l.length ≤ 281474976710656) (ha : Pts w ao l) (hb : Pts w bo m) :
    Calls Try.prog 15 #[.slice ao l.length ca, .slice bo m.length cb] w fun e w' => e = .returned (.bool (decide (l = m))) ∧ Gr w w' := by
  have HA := hid0 ha
  have HB := hid0 hb
  clear ha hb
  by_cases hn : l.length = m.length
  · have HT : Hid ((∀ j, j < l.length → l.getD j (0, 0) = m.getD j (0, 0)) → decide (l = m) = true) := fun h => decide_eq_true (ext_getD hn h)
    have HF : Hid (∀ j, j < l.length → l.getD j (0, 0) ≠ m.getD j (0, 0) → decide (l = m) = false) := fun j _ h => decide_eq_false (fun e => h (by rw [e]))
    generalize decide (l = m) = R at *
    have HB' : Hid (∀ i, i < l.length → ∃ b off, bo = some ⟨b, off, none⟩ ∧ w.cell? ⟨b, off + i * 2, none⟩ = some (.int .i32 (m.getD i (0, 0)).1) ∧ w.cell? ⟨b, off + i * 2 + 1, none⟩ = some (.int .i32 (m.getD i (0, 0)).2)) := fun i hi => HB.out i (by omega)
    rw [← hn]
    clear HB
    go_enter Try.func15, Try.ntmps15
    go_wp2
    go_loopw [5] (fun i wr => ∃ k : Nat, k ≤ l.length ∧ i = .int .i64 k ∧ Hid (∀ j, j < k → l.getD j (0, 0) = m.getD j (0, 0)) ∧ Gr w wr) (fun i _ => l.length - (intOf i).toNat)
    case atStart => exact ⟨0, by omega, rfl, (by intro j hj; omega), Gr.refl _⟩
    case round =>
      obtain ⟨k, hk, rfl, hE, hG⟩ := hrel
      by_cases hlt : k < l.length
      · obtain ⟨b, off, rfl, p0, p1⟩ := HA.out k hlt
        obtain ⟨b2, off2, rfl, q0, q1⟩ := HB'.out k hlt
        replace p0 := below_cell p0 hG.below
        replace p1 := below_cell p1 hG.below
        replace q0 := below_cell q0 hG.below
        replace q1 := below_cell q1 hG.below
        have C := pair_cases (l.getD k (0, 0)) (m.getD k (0, 0))
        have HF' := hid0 (HF.out k hlt)
        have HE' : Hid (l.getD k (0, 0) = m.getD k (0, 0) → ∀ j, j < k + 1 → l.getD j (0, 0) = m.getD j (0, 0)) := fun e j hj => by
          by_cases c : j = k
          · subst c; exact e
          · exact hE.out j (by omega)
        clear HF hE
        generalize (l.getD k (0, 0)).1 = X at *
        generalize (l.getD k (0, 0)).2 = Y at *
        generalize (m.getD k (0, 0)).1 = X' at *
        generalize (m.getD k (0, 0)).2 = Y' at *
        rcases C with ⟨e, rfl, rfl⟩ | ⟨e, b1, b2⟩ | ⟨e, b1⟩
        · replace HE' := hid0 (HE'.out e)
          clear HF' e
          go_wp2
          go_region
          go_wp2
          go_roundw
          case rel => exact ⟨k + 1, by omega, by go_num, HE', hG.drew⟩
          case measure => simp [intOf]; omega
        all_goals
          have eF := hid0 (HF'.out e)
          clear HF' HE' e HT
          go_wp2
          go_region
          go_wp2
          go_ret
          exact ⟨by rw [eF.out]; rfl, hG.drew⟩
      · obtain rfl : k = l.length := by omega
        have eT := hid0 (HT.out hE.out)
        clear HT HF
        go_wp2
        go_ret
        exact ⟨by rw [eT.out]; rfl, hG⟩
  · have eF : decide (l = m) = false := decide_eq_false (fun e => hn (by rw [e]))
    rw [eF]
    have hn' : ((l.length : Int) == (m.length : Int)) = false := beq_eq_false_iff_ne.2 (by omega)
    clear HA HB eF
    go_enter Try.func15, Try.ntmps15
    go_wp2
    go_ret
    exact ⟨rfl, Gr.refl _⟩
end Go.Proofs.Ytmoddfikhipagaa
