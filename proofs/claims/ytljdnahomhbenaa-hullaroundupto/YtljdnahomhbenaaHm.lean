/- The program's Hull and Convex: what they make of any points, in memory of their own. -/
import Derived.Test.YtljdnahomhbenaaHl
import Derived.ArgAppend
namespace Go.Proofs.Ytljdnahomhbenaa
section
open Go.RowKit Go.Sort Go.Lib

set_option maxRecDepth 20000 in
theorem before_any (so : Option Addr) (n c : Nat) (w : World) (hn : 1 ≤ n) (hc : n ≤ c) (hs : ∃ b off, so = some ⟨b, off, none⟩) (hm : n ≤ 17592186043904) :
    Calls Try.prog 30 #[.slice so n c] w fun e w' => e = .returned (.slice so (n - 1) (n - 1)) ∧ w' = w := by
  obtain ⟨b, off, rfl⟩ := hs
  go_enter Try.func30, Try.ntmps30
  go_wp2
  go_ret
  exact ⟨rfl, rfl⟩

theorem hull_len {l : List (Int × Int)} (h : Asc l) : (hullL l).length ≤ l.length := by
  by_cases h2 : 2 ≤ l.length
  · obtain ⟨x0, xs, _, e, C⟩ := hull_cyc h h2
    rw [e]
    simpa using cyc_len C
  · cases l with
    | nil => exact Nat.le_refl _
    | cons a r => cases r with
      | nil => exact Nat.le_refl _
      | cons b r => simp at h2
theorem halves_len {l : List (Int × Int)} (hA : Asc l) (h : 2 ≤ (lowerL l).length) : 2 ≤ (upperL l).length := by
  have h2 : 2 ≤ l.length := by
    have := half_len l
    unfold lowerL at h
    rw [List.length_reverse] at h
    omega
  obtain ⟨x0, y0, r, rfl⟩ : ∃ x y r, l = x :: y :: r := by
    cases l with
    | nil => simp at h2
    | cons x l => cases l with
      | nil => simp at h2
      | cons y r => exact ⟨x, y, r, rfl⟩
  obtain ⟨z, hz, hxz⟩ := asc_ends hA
  obtain ⟨b1, b2⟩ := upper_ends hA
  rw [hz] at b1
  generalize upperL (x0 :: y0 :: r) = Up at *
  cases Up with
  | nil => simp at b1
  | cons a Up => cases Up with
    | nil =>
      simp at b1 b2
      exact absurd (b1 ▸ b2 ▸ hxz) (by subst b1; subst b2; exact lx_irr)
    | cons b r => simp

set_option maxRecDepth 20000 in
set_option maxHeartbeats 4000000 in
theorem hull_raw (vo : Option Addr) (cv : Nat) (l : List (Int × Int)) (w : World) (hl : l.length ≤ 8796093021952) (h32 : ∀ p ∈ l, in2 p) (hP : Pts w vo l) :
    Calls Try.prog 11 #[.slice vo l.length cv] w fun e w' => ∃ sv, e = .returned sv ∧ w'.ownsRow w.heap.size 28 2 sv (hullL (srt l)).length (flat (hullL (srt l))) ∧ Below w.heap.size w w' := by
  obtain ⟨i0, hi, hz0, hz1, hz2⟩ := info_parts Try.info28
  have L1 := hid0 (halves_any vo cv l w (by omega) h32 hP)
  have hL : (lowerL (srt l)).length ≤ l.length := Nat.le_trans (by unfold lowerL; rw [List.length_reverse]; exact half_len _) (srt_len l)
  have hU : (upperL (srt l)).length ≤ l.length := Nat.le_trans (by unfold upperL; rw [List.length_reverse]; exact Nat.le_trans (half_len _) (by simp)) (srt_len l)
  have h2U := halves_len (srt_asc l)
  have HH : Hid (hullL (srt l) = if (lowerL (srt l)).length < 2 then lowerL (srt l) else (lowerL (srt l)).dropLast ++ (upperL (srt l)).dropLast) := by unfold Hid hullL; exact rfl
  generalize lowerL (srt l) = Lo at *
  generalize upperL (srt l) = Up at *
  generalize hullL (srt l) = H at *
  clear h32 hP
  go_enter Try.func11, Try.ntmps11
  go_wp2_with fail
  refine L1.out.mono ?_
  rintro e w1 ⟨s1, s2, rfl, O1, O2, hb⟩
  clear L1
  by_cases h2 : Lo.length < 2
  · have e : H = Lo := by rw [HH.out, if_pos h2]
    subst e
    obtain ⟨s1o, s1c, es1⟩ := own_any O1
    subst es1
    go_wp2
    go_ret
    exact ⟨_, rfl, O1, hb⟩
  · have eH : Hid (H = Lo.dropLast ++ Up.dropLast) := by unfold Hid; rw [HH.out, if_neg h2]
    have h2U' := h2U (by omega)
    clear h2U HH
    obtain ⟨g1, c1, rfl, hc1, hg1⟩ := own_shape2 O1 (by omega)
    obtain ⟨g2, c2, rfl, hc2, hg2⟩ := own_shape2 O2 (by omega)
    have B1 := hid0 (fun W => before_any (some ⟨g1, 0, none⟩) Lo.length c1 W (by omega) hc1 ⟨g1, 0, rfl⟩ (by omega))
    have B2 := hid0 (fun W => before_any (some ⟨g2, 0, none⟩) Up.length c2 W (by omega) hc2 ⟨g2, 0, rfl⟩ (by omega))
    have OP1 : OwnP w1 w.heap.size g1 Lo.length c1 Lo := O1
    have OP2 : OwnP w1 w.heap.size g2 Up.length c2 Up := O2
    have P1 := own_pre OP1 (m := Lo.length - 1) (by omega)
    have P2 := own_pre OP2 (m := Up.length - 1) (by omega)
    have D1 : Lo.take (Lo.length - 1) = Lo.dropLast := by rw [List.dropLast_eq_take]
    have D2 : Up.take (Up.length - 1) = Up.dropLast := by rw [List.dropLast_eq_take]
    rw [D1] at P1
    rw [D2] at P2
    have E1 : Lo.dropLast.length = Lo.length - 1 := by simp
    have E2 : Up.dropLast.length = Up.length - 1 := by simp
    have C1 := hid0 (Pts.cells P1)
    have C2 := hid0 (Pts.cells P2)
    have F1 := flat_len Lo.dropLast
    have F2 := flat_len Up.dropLast
    have hsz := hb.size
    rw [E1] at F1
    rw [E2] at F2
    clear O1 O2 OP1 OP2 P1 P2 D1 D2
    have hfin : Hid (H.length = (Lo.length - 1) + (Up.length - 1) ∧ flat H = flat Lo.dropLast ++ flat Up.dropLast) := by
      unfold Hid
      rw [eH.out, List.length_append, E1, E2, flat_append]
      exact ⟨rfl, rfl⟩
    clear eH E1 E2
    have hc' := flat_cell Up.dropLast
    generalize flat Lo.dropLast = fL at *
    generalize flat Up.dropLast = fU at *
    generalize Lo.length = n at *
    generalize Up.length = m at *
    go_wp2_with fail
    refine (B1.out _).mono ?_
    rintro e w' ⟨rfl, rfl⟩
    go_wp2_with fail
    refine (B2.out _).mono ?_
    rintro e w' ⟨rfl, rfl⟩
    clear B1 B2
    go_wp2_with (at_builtin; refine wpList_append_grows _ rfl (.tmp 15) (.tmp 17) 22 rfl 28 i0 (.agg #[.int .i32 0, .int .i32 0]) 2 8 Try.underlying22 hi hz0 hz1 hz2 rfl (by decide) (some ⟨g1, 0, none⟩) (n - 1) (n - 1) fL rfl (fun h => by cases h) F1 (fun b hb => by cases hb; exact C1.out) ⟨g2, 0, none⟩ (m - 1) (m - 1) fU rfl F2 C2.out hc' (by omega) (by unfold maxLen; omega) (by omega) ?_)
    intro sv w2 hown hgrow
    have hb2 : Below w.heap.size w w2 := hb.trans (((Below.refl _ _).grown hgrow (Nat.le_refl _) (fun k hk => by cases hk)).mono hsz)
    have fin := own_base hown hsz
    clear hown hgrow C1 C2 hc'
    obtain ⟨so, sc, es⟩ := own_any fin
    subst es
    go_wp2
    go_ret
    refine ⟨_, rfl, ?_, hb2⟩
    rw [hfin.out.1, hfin.out.2]
    exact fin

theorem hull_any (vo : Option Addr) (cv : Nat) (l : List (Int × Int)) (w : World) (hl : l.length ≤ 8796093021952) (_ : vo = none → l.length = 0 ∧ cv = 0) (_ : ∀ a, vo = some a → a.spot = none) (h32 : ∀ p ∈ l, in2 p) (hP : Pts w vo l) :
    Calls Try.prog 11 #[.slice vo l.length cv] w fun e w' => ∃ sv, e = .returned sv ∧ w'.ownsRow w.heap.size 28 2 sv (hullL (srt l)).length (flat (hullL (srt l))) ∧ Below w.heap.size w w' := hull_raw vo cv l w hl h32 hP
end
end Go.Proofs.Ytljdnahomhbenaa
