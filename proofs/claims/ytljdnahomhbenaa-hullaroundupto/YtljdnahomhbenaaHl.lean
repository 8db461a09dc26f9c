/- The program's halves, Hull: what they make of any points, in memory of their own. -/
import Derived.Test.YtljdnahomhbenaaHf
import Derived.Test.YtljdnahomhbenaaLst5
namespace Go.Proofs.Ytljdnahomhbenaa
section
open Go.RowKit Go.Sort Go.Lib

theorem own_below {w w' : World} {base n : Nat} {sv : Value} {xs : List Value} (h : w.ownsRow base 28 2 sv n xs) (k : Below w.heap.size w w') : w'.ownsRow base 28 2 sv n xs := by
  refine ⟨h.1, ?_⟩
  rcases h.2 with ⟨rfl, hn⟩ | ⟨g, cap, cur, rfl, h1, h2, h3⟩
  · exact .inl ⟨rfl, hn⟩
  · exact .inr ⟨g, cap, cur, rfl, h1, (k.block g (lt_of_block h2)).trans h2, h3⟩
theorem own_other {w w' : World} {base n b : Nat} {sv : Value} {xs : List Value} (h : w.ownsRow base 28 2 sv n xs) (hb : b < base) (k : ∀ j, j ≠ b → w'.heap[j]? = w.heap[j]?) : w'.ownsRow base 28 2 sv n xs := by
  refine ⟨h.1, ?_⟩
  rcases h.2 with ⟨rfl, hn⟩ | ⟨g, cap, cur, rfl, h1, h2, h3⟩
  · exact .inl ⟨rfl, hn⟩
  · exact .inr ⟨g, cap, cur, rfl, h1, (k g (by omega)).trans h2, h3⟩
theorem own_base {w : World} {base base' n : Nat} {sv : Value} {xs : List Value} (h : w.ownsRow base 28 2 sv n xs) (hb : base' ≤ base) : w.ownsRow base' 28 2 sv n xs := by
  refine ⟨h.1, ?_⟩
  rcases h.2 with ⟨rfl, hn⟩ | ⟨g, cap, cur, rfl, h1, h2, h3⟩
  · exact .inl ⟨rfl, hn⟩
  · exact .inr ⟨g, cap, cur, rfl, by omega, h2, h3⟩
theorem own_pts {w : World} {base n : Nat} {sv : Value} {R : List (Int × Int)} (h : w.ownsRow base 28 2 sv n (flat R)) : ∃ ro rc, sv = .slice ro n rc ∧ Pts w ro R ∧ R.length = n ∧ n ≤ rc := by
  have hl : R.length = n := by have := h.1; rw [flat_len] at this; omega
  rcases h.2 with ⟨rfl, hn⟩ | ⟨g, cap, cur, rfl, _, _, h3, _⟩
  · refine ⟨none, 0, by rw [hn], fun i hi => ?_, hl, by omega⟩
    omega
  · exact ⟨_, cap, rfl, Pts.of_own (base := base) (cap := cap) (by rw [hl]; exact h), hl, h3⟩
theorem own_pre {w : World} {base g n cap m : Nat} {R : List (Int × Int)} (h : OwnP w base g n cap R) (hm : m ≤ n) : Pts w (some ⟨g, 0, none⟩) (R.take m) := fun i hi => by
  have hi' : i < m := by simp at hi; omega
  obtain ⟨a, b, _⟩ := h.at i (by omega)
  refine ⟨g, 0, rfl, ?_, ?_⟩
  · rw [Nat.zero_add, a]
    simp [List.getD, hi']
  · rw [Nat.zero_add, b]
    simp [List.getD, hi']

set_option maxRecDepth 20000 in
set_option maxHeartbeats 4000000 in
theorem psorted_nil (vo : Option Addr) (cap : Nat) (w : World) :
    Calls Try.prog 58 #[.slice vo 0 cap] w fun e w' => ∃ g, e = .returned (.slice (some ⟨g, 0, none⟩) 0 0) ∧ w.heap.size ≤ g ∧ w'.heap[g]? = some (.cells (flat []).toArray 28 (0, 0)) ∧ Below w.heap.size w w' := by
  obtain ⟨i0, hi, hz0, hz1, hz2⟩ := info_parts Try.info28
  go_enter Try.func58, Try.ntmps58
  go_wp2_with (at_make; refine wpList_make_full _ rfl (.tmp 5) (.tmp 5) 22 rfl w.heap.size 28 i0 (.agg #[.int .i32 0, .int .i32 0]) 2 Try.underlying22 hi hz0 hz1 .i64 .i64 _ _ 0 rfl rfl rfl rfl (by rw [hz2]; omega) (by unfold maxLen; omega) (Nat.le_refl _) ?_)
  intro w1 hown hgrow
  obtain ⟨cur, hc, hcs⟩ : ∃ cur : Array Value, w1.heap[w.heap.size]? = some (.cells cur 28 (0, 0)) ∧ cur.size = 0 := by
    rcases hown.2 with ⟨e, _⟩ | ⟨g, cap', cur, e, _, h2, _, _, h5, _⟩
    · cases e
    · cases e; exact ⟨cur, h2, h5⟩
  have hb1 : Below w.heap.size w w1 := (Below.refl _ _).grown hgrow (Nat.le_refl _) (fun k hk => by cases hk)
  have hcur : cur = (flat []).toArray := by
    apply Array.eq_empty_of_size_eq_zero hcs
  rw [hcur] at hc
  clear hown hgrow hcs hcur
  have hcopy : (Builtin.copy_ #[22, 22] 3 #[.slice (some ⟨w.heap.size, 0, none⟩) 0 0, .slice vo 0 cap]).run Try.prog w1 = .ok (.int .i64 0) w1 := by cases vo <;> simp [Builtin.copy_, run_underlying Try.underlying22, Builtin.lenOf, Builtin.firstCells, storeCells, loadCells, loadCellsFrom, goInt]
  have SF : Hid (Calls Try.prog 85 #[.slice (some ⟨w.heap.size, 0, none⟩) 0 0, .func (.func 86) #[] #[]] w1 fun e w' => e = .returned (.tuple #[]) ∧ ∃ D : List (Int × Int), D.Perm [] ∧ asc D ∧ w'.heap[w.heap.size]? = some (.cells (flat D).toArray 28 (0, 0)) ∧ Below w.heap.size w1 w') := sortfunc_any w.heap.size [] w1 (by simp) hc w.heap.size (Nat.le_refl _)
  go_wp2_with fail
  refine SF.out.mono ?_
  rintro e w3 ⟨rfl, D, hp, ha, hc3, hb3⟩
  rw [List.perm_nil.mp hp] at hc3
  go_wp2
  go_ret
  exact ⟨w.heap.size, rfl, Nat.le_refl _, hc3, hb1.trans hb3⟩
/-- Sorted of any slice. -/
theorem psorted_all (vo : Option Addr) (cap : Nat) (l : List (Int × Int)) (w : World) (hl : l.length ≤ 17592186043904) (hP : Pts w vo l) :
    Calls Try.prog 58 #[.slice vo l.length cap] w fun e w' => ∃ g D, e = .returned (.slice (some ⟨g, 0, none⟩) l.length l.length) ∧ w.heap.size ≤ g ∧ w'.heap[g]? = some (.cells (flat D).toArray 28 (0, 0)) ∧ D.Perm l ∧ asc D ∧ Below w.heap.size w w' := by
  by_cases h0 : l.length = 0
  · obtain rfl : l = [] := List.eq_nil_of_length_eq_zero h0
    refine (psorted_nil vo cap w).mono ?_
    rintro e w' ⟨g, rfl, h1, h2, h3⟩
    exact ⟨g, [], rfl, h1, h2, List.Perm.refl _, List.Pairwise.nil, h3⟩
  · obtain ⟨b, off, rfl, _⟩ := hP 0 (by omega)
    exact psorted_any b off cap l w hl hP

/-- The points in order, each once. -/
def srt (l : List (Int × Int)) : List (Int × Int) := compact (l.mergeSort fun p q => decide (¬ lx q p))
theorem le_trans' (a b c : Int × Int) (h : decide (¬ lx b a) = true) (k : decide (¬ lx c b) = true) : decide (¬ lx c a) = true := by
  simp only [decide_eq_true_eq] at *
  unfold lx at *; omega
theorem srt_sorted (l : List (Int × Int)) : (l.mergeSort fun p q => decide (¬ lx q p)).Pairwise fun p q => ¬ lx q p := by
  have := List.pairwise_mergeSort (le := fun p q => decide (¬ lx q p)) le_trans' (fun a b => by
    simp only [Bool.or_eq_true, decide_eq_true_eq]
    unfold lx; omega) l
  exact this.imp fun h => of_decide_eq_true h
theorem srt_asc (l : List (Int × Int)) : Asc (srt l) := compact_asc (srt_sorted l)
theorem srt_mem (l : List (Int × Int)) (p : Int × Int) : p ∈ srt l ↔ p ∈ l := by
  unfold srt
  rw [compact_mem (srt_sorted l), List.mem_mergeSort]
theorem compact_srt {D l : List (Int × Int)} (h : D.Perm l) (a : asc D) : compact D = srt l :=
  asc_eq (compact_asc a) (srt_asc l) fun p => by rw [compact_mem a, srt_mem, h.mem_iff]
theorem compact_len (D : List (Int × Int)) : (compact D).length ≤ D.length := by
  unfold compact compactUpTo
  rw [List.length_map]
  exact Nat.le_trans (List.length_filter_le _ _) (by simp)
theorem srt_len (l : List (Int × Int)) : (srt l).length ≤ l.length := by
  have := compact_len (l.mergeSort fun p q => decide (¬ lx q p))
  rwa [List.length_mergeSort] at this

set_option maxRecDepth 20000 in
set_option maxHeartbeats 4000000 in
theorem halves_any (vo : Option Addr) (cv : Nat) (l : List (Int × Int)) (w : World) (hl : l.length ≤ 17592186043904) (h32 : ∀ p ∈ l, in2 p) (hP : Pts w vo l) :
    Calls Try.prog 29 #[.slice vo l.length cv] w fun e w' => ∃ s1 s2, e = .returned (.tuple #[s1, s2]) ∧ w'.ownsRow w.heap.size 28 2 s1 (lowerL (srt l)).length (flat (lowerL (srt l))) ∧ w'.ownsRow w.heap.size 28 2 s2 (upperL (srt l)).length (flat (upperL (srt l))) ∧ Below w.heap.size w w' := by
  have L1 := hid0 (psorted_all vo cv l w hl hP)
  have HL := hid0 (srt_len l)
  have H32 : Hid (∀ p ∈ srt l, in2 p) := fun p hp => h32 p ((srt_mem l p).mp hp)
  have HU : Hid (∀ p ∈ (srt l).reverse, in2 p) := fun p hp => H32.out p (by simpa using hp)
  clear h32 hP
  obtain ⟨C, hC⟩ : ∃ C, srt l = C := ⟨_, rfl⟩
  have HC := hid0 hC
  rw [hC] at HL H32 HU ⊢
  clear hC
  go_enter Try.func29, Try.ntmps29
  go_wp2_with fail
  refine L1.out.mono ?_
  rintro e w1 ⟨g, D, rfl, hg, hc, hp, ha, hb1⟩
  have ED := hid0 (compact_srt hp ha)
  have hDl : D.length = l.length := hp.length_eq
  have O1 : OwnP w1 w.heap.size g l.length l.length D := OwnP.of_heap hc hDl hg (by unfold maxLen; omega)
  have L2 := hid0 (compact_any w.heap.size g l.length D w1 hl O1)
  clear L1 hc hp ha O1
  rw [ED.out, HC.out] at L2
  clear ED hDl HC
  have hCl : C.length ≤ l.length := HL.out
  clear HL
  go_wp2_with fail
  refine L2.out.mono ?_
  rintro e w2 ⟨R, rfl, O2, hR, hb2⟩
  have P2 := own_pre O2 hCl
  rw [hR] at P2
  have L3 := hid0 (half_any (some ⟨g, 0, none⟩) l.length C w2 (by omega) H32.out P2)
  have hb := hb1.trans hb2
  clear L2 P2 hb1 hb2
  go_wp2_with fail
  refine L3.out.mono ?_
  rintro e w3 ⟨s1, rfl, O3, hb3⟩
  have hg2 : g < w2.heap.size := by
    obtain ⟨_, h2, _⟩ := O2.shape
    exact lt_of_block h2
  have O2' : OwnP w3 w.heap.size g l.length l.length R := own_below O2 hb3
  have L4 := hid0 (reverse_any w.heap.size g l.length C.length l.length R w3 hl hCl O2')
  have hb' := hb.trans (hb3.mono hb.size)
  rw [hR] at L4
  clear L3 O2 O2' hb3 H32
  obtain ⟨s1o, s1c, es1⟩ := own_any O3
  subst es1
  go_wp2_with fail
  refine L4.out.mono ?_
  rintro e w4 ⟨S, rfl, O4, hS, hb4, hk4⟩
  have O3' := own_other O3 hg2 hk4
  have P4 := own_pre O4 hCl
  rw [hS] at P4
  have el : C.reverse.length = C.length := List.length_reverse
  have L5 := hid0 (half_any (some ⟨g, 0, none⟩) l.length C.reverse w4 (by omega) HU.out P4)
  rw [el] at L5
  have hb5 := hb'.trans hb4
  have hsz2 := hb.size
  clear L4 O3 O4 P4 hS hk4 hb4 hb' el
  go_wp2_with fail
  refine L5.out.mono ?_
  rintro e w5 ⟨s2, rfl, O5, hb6⟩
  have F1 := own_base (own_below O3' hb6) hsz2
  have F2 := own_base O5 hb5.size
  have hb7 := hb5.trans (hb6.mono hb5.size)
  clear O3' O5 hb6 hb5 L5
  obtain ⟨s2o, s2c, es2⟩ := own_any F2
  subst es2
  go_wp2
  go_ret2
  refine ⟨_, _, rfl, ?_, ?_, hb7⟩
  · unfold lowerL
    rw [List.length_reverse]
    exact F1
  · unfold upperL
    rw [List.length_reverse]
    exact F2
end
end Go.Proofs.Ytljdnahomhbenaa
