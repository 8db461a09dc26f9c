/- Contracts of the reference's numbers: other, sign, low. -/
import Derived.Test.YtagabccaipfjeaaR2
import Derived.Deep.DeepMust
namespace Go.Proofs.Ytagabccaipfjeaa
open Go.RowKit Go.Sort

set_option maxHeartbeats 1000000 in
theorem other_num (x : Value) (n : Int) (L : Nat) (w : World) (h : Nm w x n L) : Calls Try.prog 44 #[x] w fun e w' => ∃ z, e = .returned z ∧ Nm w' z (-n) L ∧ Gr w w' := by
  obtain ⟨ao, cap, l, rfl, hr, hn, hv, hL⟩ := h
  have K : Hid (∀ W, Gr w W → Calls Try.prog 57 #[.bool (!decide (n < 0)), .slice ao l.length cap] W fun e w' => ∃ z, e = .returned z ∧ Nm w' z (-n) L ∧ Gr W w') := fun W g =>
    made_num _ ao cap l (-n) L W (hr.gr g) (by rw [hv, Int.natAbs_neg]) (fun e => by simp at e; omega) (fun e => by simp at e; omega) hL
  clear hr hn hv hL
  generalize decide (n < 0) = B at *
  go_enter Try.func44, Try.ntmps44
  go_wp2_with fail
  refine Calls.mono (K.out _ (((Gr.refl _).alloc _).alloc _)) ?_
  rintro e w1 ⟨z, rfl, hz, q1⟩
  obtain ⟨r1, o1, l1, k1, rfl, hz1⟩ := hz.shape
  clear hz
  have hW : Wh w1 (w.heap.size + 1) (.bool false) (.slice none 0 0) := by
    have := (Wh.new (w.alloc (.cells #[.bool B, .slice ao l.length cap] 51)) (.bool false) (.slice none 0 0))
    simp only [World.size_alloc] at this
    exact this.gr q1
  have d0 := hW.c0
  have d1 := hW.c1
  have df := hW.f
  go_wp2
  refine bodyPost_ret (v := .agg #[.bool r1, .slice o1 l1 k1]) (by simp [results, Try.results44, go_sem, d0, d1]) rfl ⟨_, rfl, ?_, ?_⟩
  · exact hz1.out.setW hW _ _
  · exact (((((Gr.refl _).alloc _).alloc _).trans q1).setCell (by simp only []; omega) _).setCell (by simp only []; omega) _

set_option maxHeartbeats 1000000 in
theorem sign_num (x : Value) (n : Int) (L : Nat) (w : World) (h : Nm w x n L) : Calls Try.prog 42 #[x] w fun e w' => e = .returned (.int .i64 (cmpI n 0)) ∧ Gr w w' := by
  obtain ⟨ao, cap, l, rfl, hr, hn, hv, hL⟩ := h
  have hm := hr.cap
  have hle := hr.le
  have z := nrm_zero (allD_of hr.dig) hn
  by_cases h0 : n < 0
  · have E : cmpI n 0 = -1 := by unfold cmpI; rw [if_pos h0]
    have hB : decide (n < 0) = true := by simp [h0]
    rw [E, hB]
    go_enter Try.func42, Try.ntmps42
    go_wp2
    go_ret
    exact ⟨rfl, (Gr.refl _).alloc _⟩
  · have hB : decide (n < 0) = false := by simp [h0]
    rw [hB]
    by_cases h1 : n = 0
    · have E : cmpI n 0 = 0 := by rw [h1]; rfl
      have : l = [] := z.mp (by omega)
      subst this
      rw [E]
      go_enter Try.func42, Try.ntmps42
      go_wp2
      all_goals
        go_ret
        exact ⟨rfl, (Gr.refl _).alloc _⟩
    · have E : cmpI n 0 = 1 := by unfold cmpI; rw [if_neg h0, if_pos (by omega)]
      have hl : 0 < l.length := by
        rcases Nat.eq_zero_or_pos l.length with k | k
        · have := z.mpr (List.eq_nil_of_length_eq_zero k); omega
        · exact k
      have hl' : (1 : Int) ≤ (l.length : Int) := by omega
      rw [E]
      clear z hn hv
      go_enter Try.func42, Try.ntmps42
      go_wp2
      all_goals
        go_ret
        exact ⟨by first | rfl | (exfalso; omega), (Gr.refl _).alloc _⟩
end Go.Proofs.Ytagabccaipfjeaa
