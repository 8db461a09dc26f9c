/- Contracts of what is alike as a whole; both Backs. -/
import Derived.Test.YtmjfphidcnjklaaF5
set_option linter.unusedSimpArgs false
namespace Go.Proofs.Ytmjfphidcnjklaa
open Go.RowKit Go.Sort Ieee

abbrev lt4 (a b c d : Nat) : Prop := a < 18446744073709551616 ∧ b < 18446744073709551616 ∧ c < 18446744073709551616 ∧ d < 18446744073709551616
set_option maxRecDepth 20000 in
set_option maxHeartbeats 1600000 in
theorem same_any {a b c d a2 b2 c2 d2 : Nat} (h : lt4 a b c d) (h2 : lt4 a2 b2 c2 d2) (w : World) :
    Calls Try.prog 22 #[simV a b c d, simV a2 b2 c2 d2] w fun e w' => e = .returned (.bool ((alB a a2 && alB b b2) && (alB c c2 && alB d d2))) ∧ Gr w w' := by
  have H1 := fun w => hid' (alike_any h.1 h.2.1 h2.1 h2.2.1 w)
  have H2 := fun w => hid' (alike_any h.2.2.1 h.2.2.2 h2.2.2.1 h2.2.2.2 w)
  clear h h2
  generalize (alB a a2 && alB b b2) = X at *
  generalize (alB c c2 && alB d d2) = Y at *
  cases X <;> cases Y
  all_goals
    go_enter Try.func22, Try.ntmps22
    go_wp2_with (first
      | (go_at_call_of 53 a; refine (H1 _).out.mono ?_; rintro e w' ⟨rfl, rfl⟩)
      | (go_at_call_of 53 c; refine (H2 _).out.mono ?_; rintro e w' ⟨rfl, rfl⟩))
    go_ret
    exact ⟨rfl, ((Gr.refl _).alloc _).alloc _⟩
set_option maxRecDepth 20000 in
set_option maxHeartbeats 1600000 in
theorem ralikeMap_any {a b c d a2 b2 c2 d2 : Nat} (h : lt4 a b c d) (h2 : lt4 a2 b2 c2 d2) (w : World) :
    Calls Try.prog 23 #[mapV a b c d, mapV a2 b2 c2 d2] w fun e w' => e = .returned (.bool ((alB a a2 && alB b b2) && (alB c c2 && alB d d2))) ∧ Gr w w' := by
  have H1 := fun w => hid' (ralikeNum_any h.1 h.2.1 h2.1 h2.2.1 w)
  have H2 := fun w => hid' (ralikeNum_any h.2.2.1 h.2.2.2 h2.2.2.1 h2.2.2.2 w)
  obtain ⟨kM, kN, g⟩ := two_new w 35 35 #[.float .f64 a, .float .f64 b, .float .f64 c, .float .f64 d] #[.float .f64 a2, .float .f64 b2, .float .f64 c2, .float .f64 d2]
  clear h h2
  generalize (alB a a2 && alB b b2) = X at *
  generalize (alB c c2 && alB d d2) = Y at *
  cases X
  all_goals
    go_enter Try.func23, Try.ntmps23
    go_wp2_with fail
    refine (H1 _).out.mono ?_
    rintro e w1 ⟨rfl, g1⟩
    replace g := g.trans g1
    obtain ⟨⟨m0, m1, m2, m3⟩, _⟩ := (kM.gr g1).four
    obtain ⟨⟨n0, n1, n2, n3⟩, _⟩ := (kN.gr g1).four
    clear g1 kM kN
    dsimp only
    go_wp2_with (go_at_call 40; refine (H2 _).out.mono ?_; rintro e w2 ⟨rfl, g2⟩; replace g := g.trans g2)
    go_ret
    exact ⟨rfl, g⟩
/-- The law's own: a number of the program's and one of the reference's, two similarities. -/
theorem law_alike {a b c d X Y : Nat} (ha : V a X) (hb : V b Y) (hc : V c X) (hd : V d Y) (w : World) :
    Calls Try.prog 12 #[.complex .f64 a b, numV c d] w fun e w' => e = .returned (.bool true) ∧ Gr w w' := by
  have H : Hid (∀ w, Calls Try.prog 40 #[numV a b, numV c d] w fun e w' => e = .returned (.bool true) ∧ Gr w w') := fun w => by
    have := ralikeNum_any ha.1 hb.1 hc.1 hd.1 w
    rw [alB_both ha hc, alB_both hb hd] at this
    exact this
  clear ha hb hc hd
  have kN := Bl.new w 33 #[.float .f64 c, .float .f64 d]
  have g : Hid (Gr w (w.alloc (.cells #[.float .f64 c, .float .f64 d] 33))) := (Gr.refl w).alloc _
  go_enter Try.func12, Try.ntmps12
  go_wp2_with fail
  generalize w.alloc (.cells #[.float .f64 c, .float .f64 d] 33) = W1 at *
  obtain ⟨n0, n1, _, _⟩ := kN.two
  go_region_held3 (S2 ⟨w.heap.size, 0, none⟩ ⟨w.heap.size, 1, none⟩ (.float .f64 c) (.float .f64 d) w)
    (first
      | exact ⟨n0, n1, g.out.drew⟩
      | exact S2.call (by assumption) (by assumption))
    (first
      | (go_at_call 15; refine (num_any a b _).mono ?_; rintro e w1 ⟨rfl, g1⟩)
      | (go_at_call 40; refine (H.out _).mono ?_; rintro e w2 ⟨rfl, g2⟩))
  rename_i hH
  have gg := hH.2.2
  go_wp2
  go_ret
  exact ⟨rfl, gg⟩
set_option maxRecDepth 20000 in
set_option maxHeartbeats 1600000 in
theorem law_alikeMap {a b c d a2 b2 c2 d2 A B C D : Nat} (ha : V a A) (hb : V b B) (hc : V c C) (hd : V d D) (ha2 : V a2 A) (hb2 : V b2 B) (hc2 : V c2 C) (hd2 : V d2 D) (w : World) :
    Calls Try.prog 16 #[simV a b c d, mapV a2 b2 c2 d2] w fun e w' => e = .returned (.bool true) ∧ Gr w w' := by
  have H : Hid (∀ w, Calls Try.prog 23 #[mapV a b c d, mapV a2 b2 c2 d2] w fun e w' => e = .returned (.bool true) ∧ Gr w w') := fun w => by
    have := ralikeMap_any ⟨ha.1, hb.1, hc.1, hd.1⟩ ⟨ha2.1, hb2.1, hc2.1, hd2.1⟩ w
    rw [alB_both ha ha2, alB_both hb hb2, alB_both hc hc2, alB_both hd hd2] at this
    exact this
  clear ha hb hc hd ha2 hb2 hc2 hd2
  obtain ⟨kM, kN, g⟩ := two_new w 28 35 #[.complex .f64 a b, .complex .f64 c d] #[.float .f64 a2, .float .f64 b2, .float .f64 c2, .float .f64 d2]
  replace g := hid' g
  go_enter Try.func16, Try.ntmps16
  go_wp2_with fail
  generalize (w.alloc (.cells #[.complex .f64 a b, .complex .f64 c d] 28)).alloc (.cells #[.float .f64 a2, .float .f64 b2, .float .f64 c2, .float .f64 d2] 35) = W1 at *
  obtain ⟨m0, m1, _, _⟩ := kM.two
  obtain ⟨⟨n0, n1, n2, n3⟩, _⟩ := kN.four
  go_region_held3 (S6 ⟨w.heap.size, 0, none⟩ ⟨w.heap.size, 1, none⟩ ⟨w.heap.size + 1, 0, none⟩ ⟨w.heap.size + 1, 1, none⟩ ⟨w.heap.size + 1, 2, none⟩ ⟨w.heap.size + 1, 3, none⟩ (.complex .f64 a b) (.complex .f64 c d) (.float .f64 a2) (.float .f64 b2) (.float .f64 c2) (.float .f64 d2) w)
    (first
      | exact ⟨m0, m1, n0, n1, n2, n3, g.out.drew⟩
      | exact S6.call (by assumption) (by assumption))
    (first
      | (go_at_call 11; refine (numMap_any a b c d _).mono ?_; rintro e w1 ⟨rfl, g1⟩)
      | (go_at_call 23; refine (H.out _).mono ?_; rintro e w2 ⟨rfl, g2⟩))
  rename_i hH
  have gg := hH.2.2.2.2.2.2
  go_wp2
  go_ret
  exact ⟨rfl, gg⟩
end Go.Proofs.Ytmjfphidcnjklaa
