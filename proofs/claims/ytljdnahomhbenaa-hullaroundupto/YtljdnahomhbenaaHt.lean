/- The program's Has and the reference's, as one answer. -/
import Derived.Test.YtljdnahomhbenaaHs
namespace Go.Proofs.Ytljdnahomhbenaa
section
set_option linter.unusedSimpArgs false
open Go.RowKit Go.Sort Go.Lib Go.Shelf

theorem one_new (w : World) (x y : Value) : ∃ W, W = w.alloc (.cells #[x, y] 28) ∧ W.cell? ⟨w.heap.size, 0, none⟩ = some x ∧ W.cell? ⟨w.heap.size, 1, none⟩ = some y ∧ Below w.heap.size w W := by
  have h := heap_alloc_new w (.cells #[x, y] 28)
  obtain ⟨a, b, _⟩ := pt_cells h
  exact ⟨_, rfl, a, b, ((Gr.refl w).alloc _).below⟩
theorem has_not {l : List (Int × Int)} {p : Int × Int} (h : decide (l = hullL (srt l)) = false) : hasH l p = false := by
  unfold hasH
  rw [decide_eq_false_iff_not] at *
  exact fun x => h x.2.1
theorem has_nil {l : List (Int × Int)} {p : Int × Int} (h : l.length = 0) : hasH l p = false := by
  unfold hasH
  rw [decide_eq_false_iff_not]
  exact fun x => by omega
theorem has_ref {l : List (Int × Int)} {p : Int × Int} (hn : 0 < l.length) (h : decide (l = hullL (srt l)) = true) : hasH l p = decide (hullL (srt (l ++ [p])) = l) := by
  unfold hasH
  rw [Bool.eq_iff_iff, decide_eq_true_eq, decide_eq_true_eq]
  rw [decide_eq_true_eq] at h
  exact ⟨fun x => x.2.2, fun x => ⟨hn, h, x⟩⟩

set_option maxRecDepth 20000 in
set_option maxHeartbeats 8000000 in
theorem has_any10 (vo : Option Addr) (cv : Nat) (l : List (Int × Int)) (p : Int × Int) (w : World) (hl : l.length ≤ 8796093021952) (hn : vo = none → l.length = 0 ∧ cv = 0) (hs : ∀ a, vo = some a → a.spot = none) (h32 : ∀ q ∈ l, in2 q) (hp : in2 p) (hP : Pts w vo l) :
    Calls Try.prog 16 #[.slice vo l.length cv, pt p.1 p.2] w fun e w' => e = .returned (.bool (hasH l p)) ∧ Below w.heap.size w w' := by
  have HP := hid0 hP
  have H32 := hid0 h32
  have HPp := hid0 hp
  have N0 := hid0 (@has_not l p)
  have N1 := hid0 (@has_nil l p)
  have N2 : Hid (∀ a, l = [a] → hasH l p = decide (a = p)) := fun a e => by rw [e]; exact has_one a p
  have N3 : Hid (∀ a b, l = [a, b] → decide (l = hullL (srt l)) = true → hasH l p = onB p.1 p.2 a.1 a.2 b.1 b.2) := fun a b e h => by
    have h := of_decide_eq_true h
    rw [e] at h
    rw [e]; exact has_two a b p h
  have N4 : Hid (3 ≤ l.length → decide (l = hullL (srt l)) = true → hasH l p = leftB l p) := fun h k => has_more l p h (of_decide_eq_true k)
  obtain ⟨W, hW, x0, x1, gW⟩ := one_new w (.int .i32 p.1) (.int .i32 p.2)
  have C := hid0 (convex_any vo cv l W hl hn hs h32 (hP.mono gW))
  obtain ⟨F, hF⟩ : ∃ F, hasH l p = F := ⟨_, rfl⟩
  obtain ⟨D, hD⟩ : ∃ D, decide (l = hullL (srt l)) = D := ⟨_, rfl⟩
  rw [hF] at N0 N1 N2 N3 N4 ⊢
  rw [hD] at N0 N3 N4 C
  clear hF hD hP h32 hp hn hs
  go_enter Try.func16, Try.ntmps16
  go_upto_region 1 with fail
  rw [← hW]
  clear hW
  have hWs := gW.size
  obtain ⟨B1, hB1⟩ : ∃ B1, B1 = w.heap.size := ⟨_, rfl⟩
  rw [← hB1] at x0 x1 ⊢
  clear hB1
  go_wp2_with fail
  refine C.out.mono ?_
  rintro e w1 ⟨rfl, hb1⟩
  have hb := gW.trans (hb1.mono hWs)
  have y0 := below_cell x0 hb1
  have y1 := below_cell x1 hb1
  have P1 := hid0 (HP.out.mono hb)
  clear C hb1 x0 x1 gW HP hWs
  cases D with
  | false =>
    have e := N0.out rfl
    subst e
    go_wp2
    go_ret
    exact ⟨rfl, hb⟩
  | true =>
    clear N0
    by_cases h0 : l.length = 0
    · have e := N1.out h0
      subst e
      rw [h0]
      go_wp2
      go_ret
      exact ⟨rfl, hb⟩
    obtain ⟨b, off, rfl, a0, a1⟩ := P1.out 0 (by omega)
    simp only [Nat.zero_mul, Nat.add_zero] at a0 a1
    clear N1
    by_cases h1 : l.length = 1
    · obtain ⟨a, rfl⟩ : ∃ a, l = [a] := List.length_eq_one_iff.mp h1
      have e := N2.out a rfl
      have ga : ([a] : List (Int × Int)).getD 0 (0, 0) = a := rfl
      rw [ga] at a0 a1
      clear N2 N3 N4 P1 H32 h1 h0 ga
      have Cs := pair_cases a p
      rcases Cs with ⟨e1, e2, e3⟩ | Cs
      · rw [decide_eq_true e1] at e
        subst e
        subst e1
        go_wp2
        go_region
        go_wp2
        go_ret
        exact ⟨rfl, hb.trans ((Gr.refl _).drew.below.mono hb.size)⟩
      · rw [decide_eq_false (by rcases Cs with ⟨e, _⟩ | ⟨e, _⟩ <;> exact e)] at e
        subst e
        rcases Cs with ⟨-, k1, k2⟩ | ⟨-, k1⟩
        all_goals
          go_wp2
          go_region
          go_wp2
          go_ret
          exact ⟨rfl, hb.trans ((Gr.refl _).drew.below.mono hb.size)⟩
    · clear N2
      obtain ⟨b', off', eb, c0, c1⟩ := P1.out 1 (by omega)
      cases eb
      simp only [Nat.one_mul] at c0 c1
      by_cases h2 : l.length = 2
      · obtain ⟨a, c, rfl⟩ : ∃ a c, l = [a, c] := by
          match l, h2 with
          | [a, c], _ => exact ⟨a, c, rfl⟩
        have e := N3.out a c rfl rfl
        have ga : ([a, c] : List (Int × Int)).getD 0 (0, 0) = a := rfl
        have gc : ([a, c] : List (Int × Int)).getD 1 (0, 0) = c := rfl
        rw [ga] at a0 a1
        rw [gc] at c0 c1
        have ON := hid0 (fun W => on_any p.1 p.2 a.1 a.2 c.1 c.2 HPp.out.1 HPp.out.2 (H32.out a (by simp)).1 (H32.out a (by simp)).2 (H32.out c (by simp)).1 (H32.out c (by simp)).2 W)
        rw [← e] at ON
        clear N3 N4 P1 H32 h1 h0 ga gc h2 e HPp
        have z0 := cell_gr a0
        have z1 := cell_gr a1
        have z2 := cell_gr c0
        have z3 := cell_gr c1
        have z4 := cell_gr y0
        have z5 := cell_gr y1
        clear a0 a1 c0 c1 y0 y1
        go_upto_region 9 with fail
        refine wp_region_quiet_grown (by kernel_rfl) (by kernel_rfl) ?_
        repeat (go_big_quiet_step (first | (go_at_call 33; exact Calls.grown_of (ON.out _))))
        refine wpQuiet_nil ?_
        intro _ hw'
        obtain ⟨⟨nq, osq⟩, hw''⟩ := hw'
        subst hw''
        have gq : Gr w1 (grow (w1.drewN nq) osq) := ⟨nq, osq, rfl⟩
        go_wp2
        go_ret
        exact ⟨rfl, hb.trans (gq.below.mono hb.size)⟩
      · have e := N4.out (by omega) rfl
        have L := hid0 (leftall_any (some ⟨b, off, none⟩) cv l p w1 (by omega) (by omega) H32.out HPp.out P1.out)
        rw [← e] at L
        clear N3 N4 P1 H32 e HPp a0 a1 c0 c1
        have d0 : ((l.length : Int) == 0) = false := beq_eq_false_iff_ne.mpr (by omega)
        have d1 : ((l.length : Int) == 1) = false := beq_eq_false_iff_ne.mpr (by omega)
        have d2 : ((l.length : Int) == 2) = false := beq_eq_false_iff_ne.mpr (by omega)
        go_wp2_with fail
        refine L.out.mono ?_
        rintro e w2 ⟨rfl, hb2⟩
        go_wp2
        go_ret
        exact ⟨rfl, hb.trans (hb2.mono hb.size)⟩
end
end Go.Proofs.Ytljdnahomhbenaa
