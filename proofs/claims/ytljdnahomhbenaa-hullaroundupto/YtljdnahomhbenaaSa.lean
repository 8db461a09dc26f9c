/- Lists of points held against one another: slices.Equal, the reference's samePoints. -/
import Derived.Test.YtljdnahomhbenaaHm
namespace Go.Proofs.Ytljdnahomhbenaa
section
set_option linter.unusedSimpArgs false
open Go.RowKit Go.Sort

theorem ext_getD {l m : List (Int × Int)} (hn : l.length = m.length) (h : ∀ j, j < l.length → l.getD j (0, 0) = m.getD j (0, 0)) : l = m := by
  refine List.ext_getElem hn fun i h1 h2 => ?_
  have := h i h1
  simpa [List.getD, h1, h2] using this
set_option maxRecDepth 20000 in
set_option maxHeartbeats 4000000 in
theorem equal_any (ao bo : Option Addr) (ca cb : Nat) (l m : List (Int × Int)) (w : World) (hl : l.length ≤ 281474976710656) (ha : Pts w ao l) (hb : Pts w bo m) :
    Calls Try.prog 31 #[.slice ao l.length ca, .slice bo m.length cb] w fun e w' => e = .returned (.bool (decide (l = m))) ∧ Gr w w' := by
  have HA := hid0 ha
  have HB := hid0 hb
  clear ha hb
  by_cases hn : l.length = m.length
  · have HT : Hid ((∀ j, j < l.length → l.getD j (0, 0) = m.getD j (0, 0)) → decide (l = m) = true) := fun h => decide_eq_true (ext_getD hn h)
    have HF : Hid (∀ j, j < l.length → l.getD j (0, 0) ≠ m.getD j (0, 0) → decide (l = m) = false) := fun j _ h => decide_eq_false (fun e => h (by rw [e]))
    generalize decide (l = m) = R at *
    have HB' : Hid (∀ i, i < l.length → ∃ b off, bo = some ⟨b, off, none⟩ ∧ w.cell? ⟨b, off + i * 2, none⟩ = some (.int .i32 (m.getD i (0, 0)).1) ∧ w.cell? ⟨b, off + i * 2 + 1, none⟩ = some (.int .i32 (m.getD i (0, 0)).2)) := fun i hi => HB.out i (by omega)
    rw [← hn]
    clear HB
    go_enter Try.func31, Try.ntmps31
    go_wp2
    go_loopw [13] (fun i wr => ∃ k : Nat, k ≤ l.length ∧ i = .int .i64 k ∧ Hid (∀ j, j < k → l.getD j (0, 0) = m.getD j (0, 0)) ∧ Gr w wr) (fun i _ => l.length - (intOf i).toNat)
    case atStart => exact ⟨0, by omega, rfl, (by intro j hj; omega), Gr.refl _⟩
    case round =>
      obtain ⟨k, hk, rfl, hE, hG⟩ := hrel
      by_cases hlt : k < l.length
      · obtain ⟨b, off, rfl, p0, p1⟩ := HA.out k hlt
        obtain ⟨b2, off2, rfl, q0, q1⟩ := HB'.out k hlt
        replace p0 := below_cell p0 hG.below
        replace p1 := below_cell p1 hG.below
        replace q0 := below_cell q0 hG.below
        replace q1 := below_cell q1 hG.below
        have C := pair_cases (l.getD k (0, 0)) (m.getD k (0, 0))
        have HF' := hid0 (HF.out k hlt)
        have HE' : Hid (l.getD k (0, 0) = m.getD k (0, 0) → ∀ j, j < k + 1 → l.getD j (0, 0) = m.getD j (0, 0)) := fun e j hj => by
          by_cases c : j = k
          · subst c; exact e
          · exact hE.out j (by omega)
        clear HF hE
        generalize (l.getD k (0, 0)).1 = X at *
        generalize (l.getD k (0, 0)).2 = Y at *
        generalize (m.getD k (0, 0)).1 = X' at *
        generalize (m.getD k (0, 0)).2 = Y' at *
        rcases C with ⟨e, rfl, rfl⟩ | ⟨e, b1, b2⟩ | ⟨e, b1⟩
        · replace HE' := hid0 (HE'.out e)
          clear HF' e
          go_wp2
          go_region
          go_wp2
          go_roundw
          case rel => exact ⟨k + 1, by omega, by go_num, HE', hG.drew⟩
          case measure => simp [intOf]; omega
        all_goals
          have eF := hid0 (HF'.out e)
          clear HF' HE' e HT
          go_wp2
          go_region
          go_wp2
          go_ret
          exact ⟨by rw [eF.out]; rfl, hG.drew⟩
      · obtain rfl : k = l.length := by omega
        have eT := hid0 (HT.out hE.out)
        clear HT HF
        go_wp2
        go_ret
        exact ⟨by rw [eT.out]; rfl, hG⟩
  · have eF : decide (l = m) = false := decide_eq_false (fun e => hn (by rw [e]))
    rw [eF]
    have hn' : ((l.length : Int) == (m.length : Int)) = false := beq_eq_false_iff_ne.2 (by omega)
    clear HA HB eF
    go_enter Try.func31, Try.ntmps31
    go_wp2
    go_ret
    exact ⟨rfl, Gr.refl _⟩

set_option maxRecDepth 20000 in
set_option maxHeartbeats 4000000 in
theorem same12_any (ao bo : Option Addr) (ca cb : Nat) (l m : List (Int × Int)) (w : World) (hl : l.length ≤ 281474976710656) (ha : Pts w ao l) (hb : Pts w bo m) :
    Calls Try.prog 12 #[.slice ao l.length ca, .slice bo m.length cb] w fun e w' => e = .returned (.bool (decide (l = m))) ∧ Gr w w' := by
  have HA := hid0 ha
  have HB := hid0 hb
  clear ha hb
  by_cases hn : l.length = m.length
  · have HT : Hid ((∀ j, j < l.length → l.getD j (0, 0) = m.getD j (0, 0)) → decide (l = m) = true) := fun h => decide_eq_true (ext_getD hn h)
    have HF : Hid (∀ j, j < l.length → l.getD j (0, 0) ≠ m.getD j (0, 0) → decide (l = m) = false) := fun j _ h => decide_eq_false (fun e => h (by rw [e]))
    generalize decide (l = m) = R at *
    have HB' : Hid (∀ i, i < l.length → ∃ b off, bo = some ⟨b, off, none⟩ ∧ w.cell? ⟨b, off + i * 2, none⟩ = some (.int .i32 (m.getD i (0, 0)).1) ∧ w.cell? ⟨b, off + i * 2 + 1, none⟩ = some (.int .i32 (m.getD i (0, 0)).2)) := fun i hi => HB.out i (by omega)
    rw [← hn]
    clear HB
    go_enter Try.func12, Try.ntmps12
    go_wp2
    go_loopw [5] (fun i wr => ∃ k : Nat, k ≤ l.length ∧ i = .int .i64 k ∧ Hid (∀ j, j < k → l.getD j (0, 0) = m.getD j (0, 0)) ∧ Gr w wr) (fun i _ => l.length - (intOf i).toNat)
    case atStart => exact ⟨0, by omega, rfl, (by intro j hj; omega), Gr.refl _⟩
    case round =>
      obtain ⟨k, hk, rfl, hE, hG⟩ := hrel
      by_cases hlt : k < l.length
      · obtain ⟨b, off, rfl, p0, p1⟩ := HA.out k hlt
        obtain ⟨b2, off2, rfl, q0, q1⟩ := HB'.out k hlt
        replace p0 := below_cell p0 hG.below
        replace p1 := below_cell p1 hG.below
        replace q0 := below_cell q0 hG.below
        replace q1 := below_cell q1 hG.below
        have C := pair_cases (l.getD k (0, 0)) (m.getD k (0, 0))
        have HF' := hid0 (HF.out k hlt)
        have HE' : Hid (l.getD k (0, 0) = m.getD k (0, 0) → ∀ j, j < k + 1 → l.getD j (0, 0) = m.getD j (0, 0)) := fun e j hj => by
          by_cases c : j = k
          · subst c; exact e
          · exact hE.out j (by omega)
        clear HF hE
        generalize (l.getD k (0, 0)).1 = X at *
        generalize (l.getD k (0, 0)).2 = Y at *
        generalize (m.getD k (0, 0)).1 = X' at *
        generalize (m.getD k (0, 0)).2 = Y' at *
        rcases C with ⟨e, rfl, rfl⟩ | ⟨e, b1, b2⟩ | ⟨e, b1⟩
        · replace HE' := hid0 (HE'.out e)
          clear HF' e
          go_wp2
          go_region
          go_wp2
          go_roundw
          case rel => exact ⟨k + 1, by omega, by go_num, HE', hG.drew⟩
          case measure => simp [intOf]; omega
        all_goals
          have eF := hid0 (HF'.out e)
          clear HF' HE' e HT
          go_wp2
          go_region
          go_wp2
          go_ret
          exact ⟨by rw [eF.out]; rfl, hG.drew⟩
      · obtain rfl : k = l.length := by omega
        have eT := hid0 (HT.out hE.out)
        clear HT HF
        go_wp2
        go_ret
        exact ⟨by rw [eT.out]; rfl, hG⟩
  · have eF : decide (l = m) = false := decide_eq_false (fun e => hn (by rw [e]))
    rw [eF]
    have hn' : ((l.length : Int) == (m.length : Int)) = false := beq_eq_false_iff_ne.2 (by omega)
    clear HA HB eF
    go_enter Try.func12, Try.ntmps12
    go_wp2
    go_ret
    exact ⟨rfl, Gr.refl _⟩
set_option maxRecDepth 20000 in
set_option maxHeartbeats 4000000 in
theorem same36_any (ao bo : Option Addr) (ca cb : Nat) (l m : List (Int × Int)) (w : World) (hl : l.length ≤ 281474976710656) (ha : Pts w ao l) (hb : Pts w bo m) :
    Calls Try.prog 36 #[.slice ao l.length ca, .slice bo m.length cb] w fun e w' => e = .returned (.bool (decide (l = m))) ∧ Gr w w' := by
  have HA := hid0 ha
  have HB := hid0 hb
  clear ha hb
  by_cases hn : l.length = m.length
  · have HT : Hid ((∀ j, j < l.length → l.getD j (0, 0) = m.getD j (0, 0)) → decide (l = m) = true) := fun h => decide_eq_true (ext_getD hn h)
    have HF : Hid (∀ j, j < l.length → l.getD j (0, 0) ≠ m.getD j (0, 0) → decide (l = m) = false) := fun j _ h => decide_eq_false (fun e => h (by rw [e]))
    generalize decide (l = m) = R at *
    have HB' : Hid (∀ i, i < l.length → ∃ b off, bo = some ⟨b, off, none⟩ ∧ w.cell? ⟨b, off + i * 2, none⟩ = some (.int .i32 (m.getD i (0, 0)).1) ∧ w.cell? ⟨b, off + i * 2 + 1, none⟩ = some (.int .i32 (m.getD i (0, 0)).2)) := fun i hi => HB.out i (by omega)
    rw [← hn]
    clear HB
    go_enter Try.func36, Try.ntmps36
    go_wp2
    go_loopw [5] (fun i wr => ∃ k : Nat, k ≤ l.length ∧ i = .int .i64 k ∧ Hid (∀ j, j < k → l.getD j (0, 0) = m.getD j (0, 0)) ∧ Gr w wr) (fun i _ => l.length - (intOf i).toNat)
    case atStart => exact ⟨0, by omega, rfl, (by intro j hj; omega), Gr.refl _⟩
    case round =>
      obtain ⟨k, hk, rfl, hE, hG⟩ := hrel
      by_cases hlt : k < l.length
      · obtain ⟨b, off, rfl, p0, p1⟩ := HA.out k hlt
        obtain ⟨b2, off2, rfl, q0, q1⟩ := HB'.out k hlt
        replace p0 := below_cell p0 hG.below
        replace p1 := below_cell p1 hG.below
        replace q0 := below_cell q0 hG.below
        replace q1 := below_cell q1 hG.below
        have C := pair_cases (l.getD k (0, 0)) (m.getD k (0, 0))
        have HF' := hid0 (HF.out k hlt)
        have HE' : Hid (l.getD k (0, 0) = m.getD k (0, 0) → ∀ j, j < k + 1 → l.getD j (0, 0) = m.getD j (0, 0)) := fun e j hj => by
          by_cases c : j = k
          · subst c; exact e
          · exact hE.out j (by omega)
        clear HF hE
        generalize (l.getD k (0, 0)).1 = X at *
        generalize (l.getD k (0, 0)).2 = Y at *
        generalize (m.getD k (0, 0)).1 = X' at *
        generalize (m.getD k (0, 0)).2 = Y' at *
        rcases C with ⟨e, rfl, rfl⟩ | ⟨e, b1, b2⟩ | ⟨e, b1⟩
        · replace HE' := hid0 (HE'.out e)
          clear HF' e
          go_wp2
          go_region
          go_wp2
          go_roundw
          case rel => exact ⟨k + 1, by omega, by go_num, HE', hG.drew⟩
          case measure => simp [intOf]; omega
        all_goals
          have eF := hid0 (HF'.out e)
          clear HF' HE' e HT
          go_wp2
          go_region
          go_wp2
          go_ret
          exact ⟨by rw [eF.out]; rfl, hG.drew⟩
      · obtain rfl : k = l.length := by omega
        have eT := hid0 (HT.out hE.out)
        clear HT HF
        go_wp2
        go_ret
        exact ⟨by rw [eT.out]; rfl, hG⟩
  · have eF : decide (l = m) = false := decide_eq_false (fun e => hn (by rw [e]))
    rw [eF]
    have hn' : ((l.length : Int) == (m.length : Int)) = false := beq_eq_false_iff_ne.2 (by omega)
    clear HA HB eF
    go_enter Try.func36, Try.ntmps36
    go_wp2
    go_ret
    exact ⟨rfl, Gr.refl _⟩

set_option maxRecDepth 20000 in
set_option maxHeartbeats 4000000 in
theorem convex_any (vo : Option Addr) (cv : Nat) (l : List (Int × Int)) (w : World) (hl : l.length ≤ 8796093021952) (hn : vo = none → l.length = 0 ∧ cv = 0) (hs : ∀ a, vo = some a → a.spot = none) (h32 : ∀ p ∈ l, in2 p) (hP : Pts w vo l) :
    Calls Try.prog 13 #[.slice vo l.length cv] w fun e w' => e = .returned (.bool (decide (l = hullL (srt l)))) ∧ Below w.heap.size w w' := by
  have L1 := hid0 (hull_any vo cv l w hl hn hs h32 hP)
  have HP := hid0 hP
  generalize hullL (srt l) = H at *
  clear hP hn hs h32
  go_enter Try.func13, Try.ntmps13
  go_wp2_with fail
  refine L1.out.mono ?_
  rintro e w1 ⟨sv, rfl, O, hb⟩
  obtain ⟨ro, rc, rfl, PR, hRl, _⟩ := own_pts O
  have E := hid0 (equal_any vo ro cv rc l H w1 (by omega) (HP.out.mono hb) PR)
  clear L1 O PR HP
  go_wp2_with fail
  refine E.out.mono ?_
  rintro e w2 ⟨rfl, g⟩
  go_wp2
  go_ret
  exact ⟨rfl, hb.trans (g.below.mono hb.size)⟩
end
end Go.Proofs.Ytljdnahomhbenaa
