/- The law's has: is a point in a list? Plain: what HullAround asks. -/
import Derived.Test.YtljdnahomhbenaaTu
namespace Go.Proofs.Ytljdnahomhbenaa
section
set_option linter.unusedSimpArgs false
open Go.RowKit Go.Sort Go.Lib Go.Shelf

set_option maxRecDepth 20000 in
set_option maxHeartbeats 4000000 in
theorem lhas_any (vo : Option Addr) (cv : Nat) (l : List (Int × Int)) (p : Int × Int) (w : World) (hl : l.length ≤ 17592186043904) (hm : p ∈ l) (hP : Pts w vo l) :
    Calls Try.prog 20 #[.slice vo l.length cv, pt p.1 p.2] w fun e w' => e = .returned (.bool true) ∧ Below w.heap.size w w' := by
  have HP := hid0 hP
  have HM := hid0 hm
  obtain ⟨W, hW, x0, x1, gW⟩ := one_new w (.int .i32 p.1) (.int .i32 p.2)
  have HPW := hid0 (HP.out.mono gW)
  clear HP hP hm
  go_enter Try.func20, Try.ntmps20
  go_upto_region 1 with fail
  rw [← hW]
  clear hW
  have hWs := gW.size
  obtain ⟨B1, hB1⟩ : ∃ B1, B1 = w.heap.size := ⟨_, rfl⟩
  rw [← hB1] at x0 x1 ⊢
  clear hB1
  go_wp2
  go_loopw [5] (fun i wr => ∃ k : Nat, k ≤ l.length ∧ i = .int .i64 k ∧ Hid (∀ j, j < k → l.getD j (0, 0) ≠ p) ∧ Below W.heap.size W wr) (fun i _ => l.length - (intOf i).toNat)
  case atStart => exact ⟨0, by omega, rfl, (by intro j hj; omega), Below.refl _ _⟩
  case round =>
    obtain ⟨k, hk, rfl, hE, hb⟩ := hrel
    by_cases hlt : k < l.length
    · obtain ⟨b, off, rfl, q0, q1⟩ := HPW.out k hlt
      replace q0 := below_cell q0 hb
      replace q1 := below_cell q1 hb
      have z0 := below_cell x0 hb
      have z1 := below_cell x1 hb
      have HE' : Hid (l.getD k (0, 0) ≠ p → ∀ j, j < k + 1 → l.getD j (0, 0) ≠ p) := fun e j hj => by
        by_cases c : j = k
        · subst c; exact e
        · exact hE.out j (by omega)
      obtain ⟨q, hqe⟩ : ∃ q, q = l.getD k (0, 0) := ⟨_, rfl⟩
      rw [← hqe] at q0 q1 HE'
      clear hqe hE
      have Cs := pair_cases q p
      rcases Cs with ⟨e, e1, e2⟩ | Cs
      · subst e
        go_wp2
        go_region
        go_wp2
        go_ret
        exact ⟨rfl, gW.trans ((hb.trans ((Gr.refl _).drew.below.mono hb.size)).mono hWs)⟩
      · have E2 : Hid (∀ j, j < k + 1 → l.getD j (0, 0) ≠ p) := HE'.out (by rcases Cs with ⟨e, _⟩ | ⟨e, _⟩ <;> exact e)
        clear HE'
        rcases Cs with ⟨-, k1, k2⟩ | ⟨-, k1⟩
        all_goals
          go_wp2
          go_region
          go_wp2
          go_roundw
          case rel => exact ⟨k + 1, by omega, by go_num, E2, hb.trans ((Gr.refl _).drew.below.mono hb.size)⟩
          case measure => simp [intOf]; omega
    · exfalso
      obtain ⟨t, ht, e⟩ := List.getElem_of_mem HM.out
      exact hE.out t (by omega) (by rw [getD_eq _ _ ht]; exact e)

/-- A set between a hull and what it is the hull of. -/
theorem hull_between {l l' : List (Int × Int)} (h : Asc l) (h' : Asc l') (h1 : ∀ p ∈ hullL l, p ∈ l') (h2 : ∀ p ∈ l', p ∈ l) : hullL l' = hullL l := by
  by_cases c : 2 ≤ l.length
  · obtain ⟨x0, xs, e0, eH, C⟩ := hull_cyc h c
    rw [eH] at h1 ⊢
    have hx := cyc_ne C
    have l2 : 2 ≤ l'.length := by
      have := nodup_len (x0 :: xs) l' (cyc_nodup C) h1
      have h1' : xs.length + 1 ≤ l'.length := by simpa using this
      have : xs.length ≠ 0 := fun e => hx (List.length_eq_zero_iff.mp e)
      omega
    exact hull_unique h' l2 (head_of h' (h1 x0 (by simp)) fun p hp => head_least h e0 p (h2 p hp)) ⟨C.links.mono fun x y k => k.mono h2, h1, C.fresh⟩
  · have e : hullL l = l := by
      cases l with
      | nil => rfl
      | cons a r => cases r with
        | nil => rfl
        | cons b r => simp at c
    rw [e] at h1 ⊢
    rw [asc_eq h' h fun p => ⟨h2 p, h1 p⟩, e]
theorem hull_pos {l : List (Int × Int)} (h : 0 < l.length) : 0 < (hullL (srt l)).length := by
  have hs : 0 < (srt l).length := by
    cases l with
    | nil => simp at h
    | cons a r => exact List.length_pos_of_mem ((srt_mem (a :: r) a).mpr (by simp))
  by_cases c : 2 ≤ (srt l).length
  · have := hull_two (srt_asc l) c
    omega
  · cases e : srt l with
    | nil => rw [e] at hs; simp at hs
    | cons a r => cases r with
      | nil => simp [hull_one]
      | cons b r => rw [e] at c; simp at c
/-- Every point is in the hull. -/
theorem has_own {l : List (Int × Int)} {p : Int × Int} (hp : p ∈ l) : hasH (hullL (srt l)) p = true := by
  unfold hasH
  rw [decide_eq_true_eq]
  refine ⟨hull_pos (List.length_pos_of_mem hp), (hull_fix l).symm, hull_between (srt_asc l) (srt_asc _) (fun q hq => (srt_mem _ q).mpr (by simp [hq])) fun q hq => ?_⟩
  rcases List.mem_append.mp ((srt_mem _ q).mp hq) with h | h
  · exact hull_sub (srt_asc l) q h
  · have : q = p := by simpa using h
    rw [this]; exact (srt_mem l p).mpr hp
/-- What is in the hull adds nothing. -/
theorem hull_all {l m : List (Int × Int)} (hm : ∀ q ∈ m, q ∈ l ∨ hasH (hullL (srt l)) q = true) (hl : ∀ q ∈ l, q ∈ m) : hullL (srt m) = hullL (srt l) := by
  have hH : ∀ q ∈ m, q ∈ l ∨ (hullL (srt (hullL (srt l) ++ [q])) = hullL (srt l)) := fun q hq => by
    rcases hm q hq with h | h
    · exact Or.inl h
    · unfold hasH at h
      exact Or.inr (of_decide_eq_true h).2.2
  by_cases c : 2 ≤ (srt l).length
  · obtain ⟨x0, xs, e0, eH, C⟩ := hull_cyc (srt_asc l) c
    rw [eH] at hH ⊢
    have sub : ∀ x ∈ x0 :: xs, x ∈ srt m := fun x hx => (srt_mem m x).mpr (hl x ((srt_mem l x).mp (C.sub x hx)))
    have hx := cyc_ne C
    have l2 : 2 ≤ (srt m).length := by
      have := nodup_len (x0 :: xs) (srt m) (cyc_nodup C) sub
      have h1' : xs.length + 1 ≤ (srt m).length := by simpa using this
      have : xs.length ≠ 0 := fun e => hx (List.length_eq_zero_iff.mp e)
      omega
    have key : ∀ q ∈ srt m, (q = x0 ∨ lx x0 q) ∧ ∀ i, 0 ≤ cr (cAt (x0 :: xs) i) (cAt (x0 :: xs) (i + 1)) q ∧ (cr (cAt (x0 :: xs) i) (cAt (x0 :: xs) (i + 1)) q = 0 → Bt q (cAt (x0 :: xs) i) (cAt (x0 :: xs) (i + 1))) := fun q hq => by
      rcases hH q ((srt_mem m q).mp hq) with h | h
      · exact ⟨head_least (srt_asc l) e0 q ((srt_mem l q).mpr h), fun i => (links_iff.mp C.links i).2 q ((srt_mem l q).mpr h)⟩
      · have l3 : 2 ≤ (srt (x0 :: xs ++ [q])).length := by
          have := hull_len (srt_asc (x0 :: xs ++ [q]))
          rw [h] at this
          have h1' : xs.length + 1 ≤ (srt (x0 :: xs ++ [q])).length := by simpa using this
          have : xs.length ≠ 0 := fun e => hx (List.length_eq_zero_iff.mp e)
          omega
        obtain ⟨y0, ys, f0, fH, D⟩ := hull_cyc (srt_asc (x0 :: xs ++ [q])) l3
        rw [h] at fH
        simp only [List.cons.injEq] at fH
        obtain ⟨rfl, rfl⟩ := fH
        have hq' : q ∈ srt (x0 :: xs ++ [q]) := (srt_mem _ q).mpr (by simp)
        exact ⟨head_least (srt_asc _) f0 q hq', fun i => (links_iff.mp D.links i).2 q hq'⟩
    exact hull_unique (srt_asc m) l2 (head_of (srt_asc m) (sub x0 (by simp)) fun q hq => (key q hq).1) ⟨links_iff.mpr fun i => ⟨(links_iff.mp C.links i).1, fun q hq => (key q hq).2 i⟩, sub, C.fresh⟩
  · cases e : srt l with
    | nil =>
      have el : l = [] := by
        cases l with
        | nil => rfl
        | cons a r => exact absurd ((srt_mem (a :: r) a).mpr (by simp)) (by rw [e]; simp)
      have em : srt m = [] := by
        cases e2 : srt m with
        | nil => rfl
        | cons a r =>
          exfalso
          have ha : a ∈ m := (srt_mem m a).mp (by rw [e2]; simp)
          rcases hm a ha with h | h
          · rw [el] at h; cases h
          · unfold hasH at h
            have := (of_decide_eq_true h).1
            rw [e] at this
            simp [hull_none] at this
      rw [em]
    | cons a r => cases r with
      | cons b r => rw [e] at c; simp at c
      | nil =>
        have ha : a ∈ l := (srt_mem l a).mp (by rw [e]; simp)
        have hl1 : ∀ q ∈ l, q = a := fun q hq => by
          have := (srt_mem l q).mpr hq
          rw [e] at this
          simpa using this
        have em : srt m = [a] := asc_eq (srt_asc m) (by simp) fun q => by
          rw [srt_mem]
          constructor
          · intro hq
            rcases hm q hq with h | h
            · simp [hl1 q h]
            · rw [e, hull_one, has_one] at h
              simp [(of_decide_eq_true h).symm]
          · intro hq
            have : q = a := by simpa using hq
            rw [this]; exact hl a ha
        rw [em]
end
end Go.Proofs.Ytljdnahomhbenaa
