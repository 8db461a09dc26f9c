/- Get. -/
import Derived.Test.YtgdmbcfjjdngdaaDoorTiI
set_option linter.unusedSimpArgs false
set_option linter.unusedVariables false
namespace Go.Proofs.YtgdmbcfjjdngdaaDoor.TI
open Go.RowKit Go.Sort Go.Shelf

abbrev zV : Value := .int .i64 0
def valAt (L : List En) (i : Nat) : Int := (L.getD i (0, 0, 0)).2.1
def GetR (L : List En) (id : Int) (w : World) (e : Ending) (w' : World) : Prop := ∃ i, Cut L id i ∧ (there L id i = true ∧ e = .returned (.tuple #[vV (valAt L i), .bool true]) ∨ there L id i = false ∧ e = .returned (.tuple #[zV, .bool false])) ∧ w' = w
section
variable {B : Nat} {w : World} {t room : Nat} {v : Value} {L : List En}
theorem get_any (h : TabIs B w t room v L) (id : Int) : Calls Tryd.prog 68 #[pT t, .int .u32 id] w (GetR L id w) := by
  have F := hid0 (find_any h id)
  have H := hid0 h
  clear h
  go_enter Tryd.func68, Tryd.ntmps68
  go_wp2_with fail
  refine F.out.mono ?_
  rintro e w1 ⟨i, hc, rfl, hw⟩
  cases hw
  have HC := hid0 hc
  clear hc F
  cases hth : there L id i with
  | false =>
    go_wp2
    go_ret2
    exact ⟨i, HC.out, .inr ⟨hth, rfl⟩, rfl⟩
  | true =>
    obtain ⟨x, hx, ex⟩ := there_yes hth
    have hm := List.mem_of_getElem? hx
    have c2 := H.out.c2
    have rk := H.out.ents x hm
    obtain ⟨g1, cp, rfl, hB1, hR⟩ : ∃ g cp, v = .slice (some ⟨g, 0, none⟩) L.length cp ∧ B ≤ g ∧ RowG w g cp L := by
      rcases H.out.sl with ⟨_, rfl⟩ | h
      · simp at hx
      · exact h
    have cc := hR.cell hx
    have r1 := rk.at 1
    have hi := (List.getElem?_eq_some_iff.1 hx).1
    simp only [List.getElem?_cons_zero, List.getElem?_cons_succ] at r1
    have hi' : (i : Int) < (L.length : Int) := by omega
    have ev : Hid (valAt L i = x.2.1) := by simp [Hid, valAt, List.getD, hx]
    clear hR rk hm H hx
    go_wp2
    go_ret2
    exact ⟨i, HC.out, .inl ⟨hth, by rw [ev.out]; rfl⟩, rfl⟩
end
end Go.Proofs.YtgdmbcfjjdngdaaDoor.TI
