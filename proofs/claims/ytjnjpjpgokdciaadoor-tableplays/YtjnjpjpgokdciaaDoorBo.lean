/- The law's bit, whatever is asked. -/
import Derived.Test.YtjnjpjpgokdciaaDoorBa2
set_option linter.unusedSimpArgs false
set_option linter.unusedVariables false
namespace Go.Proofs.YtjnjpjpgokdciaaDoor
open Go.RowKit Go.Sort Go.Shelf

section
variable {w : World} {b g c gc r q s t : Nat} {T U : List Bool} {W V : List Nat}
set_option maxRecDepth 100000 in
theorem bit_other (h : BitsIs w b g T W) (k : RBits w r q T) (vc vs : Value) (d on wi i : Int) (h0 : d ≠ 0) (h1 : d ≠ 1) (h2 : d ≠ 2) (h3 : d ≠ 3) (h4 : d ≠ 4) (h5 : d ≠ 5) (h6 : d ≠ 6) (h7 : d ≠ 7) (h8 : d ≠ 8) (h9 : d ≠ 9) : Calls Tryd.prog 25 #[pT b, vc, pT r, vs, sV d on wi i] w (BitR b g r q w) := by
  have gx := (Gr.refl w).alloc (.cells (sL d on wi i).toArray 86)
  have F : Hid (BitR b g r q w (.returned (.bool true)) (w.alloc (.cells (sL d on wi i).toArray 86))) := ⟨rfl, ⟨T, W, h.gr gx, k.gr gx⟩, Chg.of_gr gx⟩
  have e0 : (d == 0) = false := by simp [h0]
  have e1 : (d == 1) = false := by simp [h1]
  have e2 : (d == 2) = false := by simp [h2]
  have e3 : (d == 3) = false := by simp [h3]
  have e4 : (d == 4) = false := by simp [h4]
  have e5 : (d == 5) = false := by simp [h5]
  have e6 : (d == 6) = false := by simp [h6]
  have e7 : (d == 7) = false := by simp [h7]
  have e8 : (d == 8) = false := by simp [h8]
  have e9 : (d == 9) = false := by simp [h9]
  clear gx h k
  go_enter Tryd.func25, Tryd.ntmps25
  go_wp2
  go_ret
  exact F.out
theorem bit_any (h : BitsIs w b g T W) (k : RBits w r q T) (hc : BitsIs w c gc U V) (ks : RBits w s t U) (hT : Tab w) (d on wi i : Int) (hi : in64 i) : Calls Tryd.prog 25 #[pT b, pT c, pT r, pT s, sV d on wi i] w (BitR b g r q w) := by
  by_cases h0 : d = 0
  · subst h0; exact bit_add h k _ _ on wi i
  by_cases h1 : d = 1
  · subst h1; exact bit_del h k _ _ on wi i
  by_cases h2 : d = 2
  · subst h2; exact bit_has h k _ _ on wi i
  by_cases h3 : d = 3
  · subst h3; exact bit_count h k _ _ on wi
  by_cases h4 : d = 4
  · subst h4; exact bit_least h k hT hi _ _ on wi
  by_cases h5 : d = 5
  · subst h5; exact bit_free h k hT hi _ _ on wi
  by_cases h6 : d = 6
  · subst h6; exact bit_join h k hc ks on wi
  by_cases h7 : d = 7
  · subst h7; exact bit_cut h k hc ks on wi
  by_cases h8 : d = 8
  · subst h8; exact bit_meet h k hc ks on wi
  by_cases h9 : d = 9
  · subst h9; exact bit_all h k hT _ _ on wi i
  exact bit_other h k _ _ d on wi i h0 h1 h2 h3 h4 h5 h6 h7 h8 h9
end
end Go.Proofs.YtjnjpjpgokdciaaDoor
