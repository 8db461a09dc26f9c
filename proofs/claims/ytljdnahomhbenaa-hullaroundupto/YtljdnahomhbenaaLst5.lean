/- Lists of points: the law's own 'Spoilt'; two lists in their order of the same points are one. -/
import Derived.Test.YtljdnahomhbenaaLst4
namespace Go.Proofs.Ytljdnahomhbenaa
section
open Go.RowKit Go.Sort

theorem OwnP.of_heap {w : World} {B g n : Nat} {D : List (Int × Int)} (h : w.heap[g]? = some (.cells (flat D).toArray 28 (0, 0))) (hn : D.length = n) (hB : B ≤ g) (hm : n ≤ maxLen) : OwnP w B g n n D :=
  ⟨by rw [flat_len, hn], .inr ⟨g, n, _, rfl, hB, h, Nat.le_refl _, hm, by simp [flat_len, hn], by simp [← hn, ← flat_len]⟩⟩

set_option maxRecDepth 20000 in
set_option maxHeartbeats 4000000 in
theorem spoilt_any (B g n : Nat) (D : List (Int × Int)) (w : World) (hn : n ≤ 17592186043904) (hBs : B ≤ w.heap.size) (hD : OwnP w B g n n D) :
    Calls Try.prog 15 #[.slice (some ⟨g, 0, none⟩) n n] w fun e w' => e = .returned (.tuple #[]) ∧ Below B w w' := by
  obtain ⟨i0, hi, hz0, hz1, hz2⟩ := info_parts Try.info28
  have hg : B ≤ g := by obtain ⟨_, _, _, _, _, _, h, _⟩ := hD.shape; exact h
  go_enter Try.func15, Try.ntmps15
  go_wp2
  go_loopw [2] (fun i wr => ∃ (k : Nat) (L : List (Int × Int)), k ≤ n ∧ i = .int .i64 k ∧ OwnP wr B g n n L ∧ Below B w wr) (fun i _ => n - (intOf i).toNat)
  case atStart => exact ⟨0, D, by omega, rfl, hD, Below.refl _ _⟩
  case round =>
    clear hD
    obtain ⟨k, L, hk, rfl, O, hb⟩ := hrel
    by_cases hlt : k < n
    · obtain ⟨c0, c1, f0, f1⟩ := O.at k hlt
      go_wp2
      go_roundw
      case rel => exact ⟨k + 1, L.set k (-5, 5), by omega, by go_num, O.set k hlt (-5) 5, (hb.setCell hg _).setCell hg _⟩
      case measure => simp [intOf]; omega
    · have hkn : k = n := by omega
      subst hkn
      go_wp2
      go_loopw [0, 3] (fun s i wr => ∃ (j : Nat) (xs : List Value), j ≤ 20 ∧ i = .int .i64 j ∧ wr.ownsRow B 28 2 s (k + j) xs ∧ Below B w wr) (fun _ i _ => 20 - (intOf i).toNat)
      case atStart => exact ⟨0, _, by omega, rfl, O, hb⟩
      case round =>
        clear O hb
        obtain ⟨j, xs, hj, rfl, hown, hb⟩ := hrel
        by_cases hlt2 : j < 20
        · have hsz := hb.size
          go_wp2_with (at_builtin; refine wpList_append_own _ rfl (.tmp 18) (.tmp 20) 22 rfl B 28 i0 (.agg #[.int .i32 0, .int .i32 0]) 2 8 Try.underlying22 hi hz0 hz1 hz2 rfl (by decide) _ (k + j) _ rfl (hown.alloc _) ⟨wr.heap.size, 0, none⟩ 1 1 [.int .i32 6, .int .i32 0] rfl rfl (one_cells _ _ _) (fun u hu => by simp at hu; rcases hu with rfl | rfl <;> rfl) (by unfold maxLen; omega) (by omega) (by simp; omega) ?_)
          intro sv w1 hown1 hgrow _
          have hb1 : Below B w w1 := (hb.alloc (by omega) _).grown hgrow (by simp; omega) (fun j hj => (hown.lt j hj).1)
          clear hgrow hown hb
          go_wp2
          go_roundw
          case rel => exact ⟨j + 1, _, by omega, by go_num, hown1, hb1⟩
          case measure => simp [intOf]; omega
        · go_wp2
          go_end0
          exact ⟨rfl, hb⟩

theorem lt_or_eq (p q : Int × Int) : ltP p q ∨ p = q ∨ ltP q p := by
  obtain ⟨a, b⟩ := p
  obtain ⟨c, d⟩ := q
  unfold ltP
  by_cases h : a = c ∧ b = d
  · right; left; rw [h.1, h.2]
  · simp only [Prod.mk.injEq]; omega
/-- Two lists in their order that hold the same points are one. -/
theorem asc_unique {l r : List (Int × Int)} (hl : asc l) (hr : asc r) (h : l.Perm r) : l = r := by
  induction l generalizing r with
  | nil => exact (List.nil_perm.mp h).symm ▸ rfl
  | cons p t ih =>
    cases r with
    | nil => exact absurd h.symm (List.not_perm_nil_cons _ _)
    | cons q s =>
      unfold asc at hl hr
      rw [List.pairwise_cons] at hl hr
      have e : p = q := by
        rcases lt_or_eq p q with k | k | k
        · have : p ∈ q :: s := h.subset (List.mem_cons_self)
          rcases List.mem_cons.mp this with e | m
          · exact e
          · exact absurd k (hr.1 p m)
        · exact k
        · have : q ∈ p :: t := h.symm.subset (List.mem_cons_self)
          rcases List.mem_cons.mp this with e | m
          · exact e.symm
          · exact absurd k (hl.1 q m)
      subst e
      rw [ih hl.2 hr.2 (List.Perm.cons_inv h)]
end
end Go.Proofs.Ytljdnahomhbenaa
