/- The program's find and first: the node of a number, the node of the least. -/
import Derived.Test.YtpikhdfndnpidaaTo
import Derived.Deep.LoopGhost
set_option linter.unusedSimpArgs false
set_option linter.unusedVariables false
namespace Go.Proofs.Ytpikhdfndnpidaa
open Go.RowKit Go.Sort

namespace At
def find (t : At) (k : Int) : At := match t with
  | .leaf => nil
  | .inner b j r l h => if j = k then nd b j r l h else if k < j then find l k else find h k
def first : At → At
  | .leaf => nil
  | .inner b i q l h => if isNil l then nd b i q l h else first l
theorem er_find (t : At) (k : Int) : (t.find k).er = t.er.find k := by
  induction t using At.ind with
  | nil => rfl
  | nd b j r l h ih1 ih2 =>
    simp only [find, er, PT.find]
    split
    · rfl
    · split
      · exact ih1
      · exact ih2
theorem er_first (t : At) (h : t.isNil = false) : ∃ b l hh, t.first = nd b t.er.first.1 t.er.first.2 l hh := by
  induction t using At.ind with
  | nil => cases h
  | nd b j r l hh ih1 ih2 =>
    simp only [first, er, PT.first, er_nil]
    by_cases c : l.isNil = true
    · rw [if_pos c, if_pos c]
      exact ⟨b, l, hh, rfl⟩
    · rw [if_neg c, if_neg c]
      exact ih1 (by simpa using c)
end At
theorem TrAt.find {w : World} : ∀ {t : At} (k : Int), TrAt w t → TrAt w (t.find k)
  | .leaf, _, _ => trivial
  | .inner _ _ _ _ _, k, h => by
    simp only [At.find]
    split
    · exact h
    · split
      · exact TrAt.find k h.2.1
      · exact TrAt.find k h.2.2
theorem TrAt.first {w : World} : ∀ {t : At}, TrAt w t → TrAt w t.first
  | .leaf, _ => trivial
  | .inner _ _ _ _ _, h => by
    simp only [At.first]
    split
    · exact h
    · exact TrAt.first h.2.1
set_option maxRecDepth 20000 in
set_option maxHeartbeats 4000000 in
theorem find_any (t : At) (k : Int) (w : World) (h : TrAt w t) : Calls Try.prog 32 #[t.ptr, .int .u32 k] w fun e w' => e = .returned (t.find k).ptr ∧ w' = w := by
  have S0 : Hid (TrAt w t) := h
  clear h
  go_enter Try.func32, Try.ntmps32
  go_wp2_with fail
  go_loopg [0] (t.er.dep + 1) (fun gk n wr => ∃ t' : At, n = t'.ptr ∧ t'.er.dep + 1 = gk ∧ Hid (TrAt w t') ∧ Hid (t'.find k = t.find k) ∧ wr = w)
  case atStart => exact ⟨t, rfl, rfl, S0, rfl, rfl⟩
  case round =>
    obtain ⟨t', rfl, hg, hT, hF, rfl⟩ := hrel
    have HG := hid0 hg
    clear hg S0
    cases t' using At.cas with
    | nil =>
      dsimp only [At.ptr]
      go_wp2
      go_ret
      rw [← hF.out]
      exact ⟨rfl, rfl⟩
    | nd b i q l hh =>
      obtain ⟨hb, hl, hr⟩ := hT.out
      have HL := hid0 hl
      have HR := hid0 hr
      clear hl hr hT
      have c0 := hb.at 0
      have c5 := hb.at 5
      have c6 := hb.at 6
      simp only [List.getElem?_cons_zero, List.getElem?_cons_succ] at c0 c5 c6
      have HB := hid0 hb
      clear hb
      dsimp only [At.ptr]
      by_cases e : i = k
      · have e' : (i != k) = false := by simp [e]
        have F : Hid (t.find k = .nd b i q l hh) := by unfold Hid; rw [← hF.out]; simp [At.find, e]
        clear hF
        subst e
        go_wp2
        go_ret
        rw [F.out]
        exact ⟨rfl, rfl⟩
      · have e' : (i != k) = true := by simp [e]
        by_cases e2 : k < i
        · have F : Hid (l.find k = t.find k) := by unfold Hid; rw [← hF.out]; simp [At.find, e, e2]
          clear hF
          go_wp2
          go_roundg (l.er.dep + 1)
          case measure => have := HG.out; simp only [At.er, PT.dep] at this; omega
          case rel => exact ⟨l, rfl, rfl, HL, F, rfl⟩
        · have F : Hid (hh.find k = t.find k) := by unfold Hid; rw [← hF.out]; simp [At.find, e, e2]
          clear hF
          go_wp2
          go_roundg (hh.er.dep + 1)
          case measure => have := HG.out; simp only [At.er, PT.dep] at this; omega
          case rel => exact ⟨hh, rfl, rfl, HR, F, rfl⟩
set_option maxRecDepth 20000 in
set_option maxHeartbeats 4000000 in
theorem first_any (t : At) (w : World) (h : TrAt w t) (hn : t.isNil = false) : Calls Try.prog 48 #[t.ptr] w fun e w' => e = .returned t.first.ptr ∧ w' = w := by
  have S0 : Hid (TrAt w t ∧ t.isNil = false) := ⟨h, hn⟩
  clear h hn
  go_enter Try.func48, Try.ntmps48
  go_wp2_with fail
  go_loopg [0] (t.er.dep + 1) (fun gk n wr => ∃ t' : At, n = t'.ptr ∧ t'.er.dep + 1 = gk ∧ Hid (TrAt w t' ∧ t'.isNil = false) ∧ Hid (t'.first = t.first) ∧ wr = w)
  case atStart => exact ⟨t, rfl, rfl, S0, rfl, rfl⟩
  case round =>
    obtain ⟨t', rfl, hg, hT, hF, rfl⟩ := hrel
    have HG := hid0 hg
    clear hg S0
    cases t' using At.cas with
    | nil => cases hT.out.2
    | nd b i q l hh =>
      obtain ⟨⟨hb, hl, hr⟩, _⟩ := hT.out
      have HL := hid0 hl
      clear hl hr hT
      have c5 := hb.at 5
      simp only [List.getElem?_cons_zero, List.getElem?_cons_succ] at c5
      clear hb
      cases l using At.cas with
      | nil =>
        have F : Hid (t.first = .nd b i q .nil hh) := by unfold Hid; rw [← hF.out]; simp [At.first, At.isNil]
        clear hF
        dsimp only [At.ptr] at *
        go_wp2
        go_ret
        rw [F.out]
        exact ⟨rfl, rfl⟩
      | nd b2 i2 q2 l2 h2 =>
        have F : Hid ((At.nd b2 i2 q2 l2 h2).first = t.first) := by unfold Hid; rw [← hF.out]; simp [At.first, At.isNil]
        clear hF
        dsimp only [At.ptr] at *
        go_wp2
        go_roundg ((At.nd b2 i2 q2 l2 h2).er.dep + 1)
        case measure => have := HG.out; simp only [At.er, PT.dep] at this ⊢; omega
        case rel => exact ⟨.nd b2 i2 q2 l2 h2, rfl, rfl, ⟨HL.out, rfl⟩, F, rfl⟩
end Go.Proofs.Ytpikhdfndnpidaa
