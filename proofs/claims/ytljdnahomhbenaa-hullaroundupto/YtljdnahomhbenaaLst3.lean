/- Lists of points: the program's Sorted: a row of the call's own that holds the points in their order. -/
import Derived.Test.YtljdnahomhbenaaLst2
import Derived.Test.YtljdnahomhbenaaShelf
namespace Go.Proofs.Ytljdnahomhbenaa
section
open Go.RowKit Go.Sort Go.Shelf

def cfP (p q : Int × Int) : Int := cmpP p.1 p.2 q.1 q.2
def encP (p : Int × Int) : List Value := [.int .i32 p.1, .int .i32 p.2]
def ltP (p q : Int × Int) : Prop := p.1 < q.1 ∨ (p.1 = q.1 ∧ p.2 < q.2)
theorem cf_lt (p q : Int × Int) : cfP p q < 0 ↔ ltP p q := by
  unfold cfP cmpP cmpI ltP
  split <;> (repeat' split) <;> omega
theorem lt_iff (p q : Int × Int) : ltOf cfP p q = true ↔ ltP p q := by unfold ltOf; rw [decide_eq_true_eq]; exact cf_lt p q
theorem lt_iff' (p q : Int × Int) : ltOf cfP p q = false ↔ ¬ ltP p q := by unfold ltOf; rw [decide_eq_false_iff_not]; exact not_congr (cf_lt p q)
theorem swoP : SWO (ltOf cfP) where
  irrefl x := by rw [lt_iff']; unfold ltP; omega
  trans x y z h k := by rw [lt_iff] at *; unfold ltP at *; omega
  ntrans x y z h k := by rw [lt_iff'] at *; unfold ltP at *; omega

theorem flatK_flat (l : List (Int × Int)) (t : Nat) (h : t < l.length * 2) : (flat l)[t]? = some (flatK encP 2 l.toArray)[t]! := by
  rw [get_flatK _ _ _ _ (by simpa using h)]
  obtain ⟨f0, f1⟩ := flat_at l (t / 2) (by omega)
  have e : l.toArray[t / 2]! = l.getD (t / 2) (0, 0) := by
    have : t / 2 < l.length := by omega
    simp [List.getD, this]
  rw [e]
  rcases Nat.mod_two_eq_zero_or_one t with q | q
  · have e2 : t / 2 * 2 = t := by omega
    rw [e2] at f0
    rw [q, f0]; rfl
  · have e2 : t / 2 * 2 + 1 = t := by omega
    rw [e2] at f1
    rw [q, f1]; rfl
/-- A row that holds points, as the sort reads it. -/
theorem holds_row {w : World} {g : Nat} {l : List (Int × Int)} (h : w.heap[g]? = some (.cells (flat l).toArray 28 (0, 0))) : HoldsK encP 2 w g 0 l.toArray := fun j hj => by
  rw [size_flatK] at hj
  have hj' : j < l.length * 2 := by simpa using hj
  have f := flatK_flat l j hj'
  constructor
  · simp only [Nat.zero_add, World.cell?, h]
    simpa using f
  · simp [World.frozen?, h]
/-- What the sort leaves in the row. -/
theorem row_sorted {w : World} {g m : Nat} {l : List (Int × Int)} {dk : Array (Int × Int)} {os : Array Obj} (h : w.heap[g]? = some (.cells (flat l).toArray 28 (0, 0))) (hs : dk.size = l.length) :
    (sortWorldK encP 2 w g 0 m dk os).heap[g]? = some (.cells (flat dk.toList).toArray 28 (0, 0)) := by
  have hlt := lt_of_block h
  have hH := holdsK_sortWorldK_c encP 2 w g 0 l.toArray dk m os (holds_row h) hlt (by simpa using hs)
  have shape : ∃ cur : Array Value, (sortWorldK encP 2 w g 0 m dk os).heap[g]? = some (.cells cur 28 (0, 0)) ∧ cur.size = l.length * 2 := by
    have h' : w.heap[g] = .cells (flat l).toArray 28 (0, 0) := by simpa [Array.getElem?_eq_getElem hlt] using h
    refine ⟨putCells id 0 (flatK encP 2 dk) (flat l).toArray, ?_, by simp [putCells, flat_len]⟩
    show ((w.heap.modify g _) ++ os)[g]? = _
    rw [Array.getElem?_append_left (by simpa using hlt), Array.getElem?_eq_getElem (by simpa using hlt), Array.getElem_modify_self, h']
    rfl
  obtain ⟨cur, hc, hz⟩ := shape
  rw [hc]
  congr 2
  apply Array.ext'
  apply List.ext_getElem?
  intro j
  by_cases hj : j < l.length * 2
  · have c := (hH j (by rw [size_flatK, hs]; exact hj)).1
    simp only [Nat.zero_add, World.cell?, hc] at c
    have f := flatK_flat dk.toList j (by simpa [hs] using hj)
    simp only [Array.toArray_toList] at f
    have c' : cur[j]? = some (flatK encP 2 dk)[j]! := by simpa using c
    simp [c', f]
  · have e1 : (flat dk.toList).length ≤ j := by rw [flat_len]; simp [hs]; omega
    rw [List.getElem?_eq_none (by simpa [hz] using hj), List.getElem?_eq_none (by simpa using e1)]
theorem sort_below {w : World} {g m B : Nat} {dk : Array (Int × Int)} {os : Array Obj} (hB : B ≤ g) (hg : g < w.heap.size) : Below B w (sortWorldK encP 2 w g 0 m dk os) := by
  refine ⟨rfl, rfl, rfl, size_sortWorldK_c encP 2 w g 0 m dk os, fun k hk => ?_⟩
  show ((w.heap.modify g _) ++ os)[k]? = _
  rw [Array.getElem?_append_left (by simp; omega), Array.getElem?_modify]
  split
  · omega
  · rfl
theorem cmp_lays (g : Nat) (n : Nat) (w : World) : CmpLays Try.prog 86 #[] encP 2 cfP g 0 n w := fun m os dk _ x y => by
  have h := pcmp_any x.1 x.2 y.1 y.2 (sortWorldK encP 2 w g 0 m dk os)
  exact h
theorem entersP : ∀ args w, (callFunc 86 args).run Try.prog w = .ok (.enter 86 args) w := enters_of Try.func86 (by kernel_rfl) rfl

/-- Ascending: no later one is ahead of an earlier one. -/
def asc (l : List (Int × Int)) : Prop := l.Pairwise fun p q => ¬ ltP q p
theorem sortfunc_any (g : Nat) (l : List (Int × Int)) (w : World) (hl : l.length ≤ 17592186043904) (h : w.heap[g]? = some (.cells (flat l).toArray 28 (0, 0))) (B : Nat) (hB : B ≤ g) :
    Calls Try.prog 85 #[.slice (some ⟨g, 0, none⟩) l.length l.length, .func (.func 86) #[] #[]] w fun e w' => e = .returned (.tuple #[]) ∧ ∃ D : List (Int × Int), D.Perm l ∧ asc D ∧ w'.heap[g]? = some (.cells (flat D).toArray 28 (0, 0)) ∧ Below B w w' := by
  have hlt := lt_of_block h
  have H := AnyQ.slices_SortFunc (P := Try.prog) (ρ := Try.laysSort_ren) Try.laysSort 2 (fun w => by kernel_rfl) (fun w => by kernel_rfl) encP (fun x => rfl) (fun x v hv => by simp [encP] at hv; rcases hv with rfl | rfl <;> rfl) cfP swoP 86 #[] g 0 l.length l.toArray w entersP (cmp_lays g _ w) (holds_row h) hlt (by simp; omega)
  have e : l.toArray.size = l.length := by simp
  rw [e] at H
  refine H.mono fun e' w' ⟨he, d', n, os, hp, hs, hw⟩ => ?_
  subst hw
  have hsz : d'.size = l.length := by simpa using hp.1
  refine ⟨he, d'.toList, ?_, ?_, row_sorted h hsz, sort_below hB hlt⟩
  · have := hp.2.2
    simp at this
    rwa [List.take_of_length_le (by simp [hsz])] at this
  · unfold asc
    rw [List.pairwise_iff_getElem]
    intro i j hi hj hij
    have := hs i j (Nat.zero_le _) hij (by simpa [hsz] using hj)
    rw [lt_iff'] at this
    have a : i < d'.size := by simpa using hi
    have b : j < d'.size := by simpa using hj
    simpa [getElem!_pos, a, b] using this

theorem made_len (z : Array Value) (n : Nat) : (madeCells z n).toList.length = n := by simp [madeCells]
set_option maxRecDepth 20000 in
set_option maxHeartbeats 4000000 in
theorem psorted_any (b off cap : Nat) (l : List (Int × Int)) (w : World) (hl : l.length ≤ 17592186043904) (hP : Pts w (some ⟨b, off, none⟩) l) :
    Calls Try.prog 58 #[.slice (some ⟨b, off, none⟩) l.length cap] w fun e w' => ∃ g D, e = .returned (.slice (some ⟨g, 0, none⟩) l.length l.length) ∧ w.heap.size ≤ g ∧ w'.heap[g]? = some (.cells (flat D).toArray 28 (0, 0)) ∧ D.Perm l ∧ asc D ∧ Below w.heap.size w w' := by
  obtain ⟨i0, hi, hz0, hz1, hz2⟩ := info_parts Try.info28
  have HP : Hid (Pts w (some ⟨b, off, none⟩) l) := hP
  have hi2 : (Try.prog.info? 28).map (·.size) = some 2 := by rw [hi]; simp [hz1]
  clear hP
  go_enter Try.func58, Try.ntmps58
  go_wp2_with (at_make; refine wpList_make_full _ rfl (.tmp 5) (.tmp 5) 22 rfl w.heap.size 28 i0 (.agg #[.int .i32 0, .int .i32 0]) 2 Try.underlying22 hi hz0 hz1 .i64 .i64 _ _ l.length rfl rfl rfl rfl (by rw [hz2]; omega) (by unfold maxLen; omega) (Nat.le_refl _) ?_)
  intro w1 hown hgrow
  obtain ⟨cur, hc, hcs⟩ : ∃ cur : Array Value, w1.heap[w.heap.size]? = some (.cells cur 28 (0, 0)) ∧ cur.size = l.length * 2 := by
    rcases hown.2 with ⟨e, _⟩ | ⟨g, cap', cur, e, _, h2, _, _, h5, _⟩
    · cases e
    · cases e; exact ⟨cur, h2, h5⟩
  have hb1 : Below w.heap.size w w1 := (Below.refl _ _).grown hgrow (Nat.le_refl _) (fun k hk => by cases hk)
  have fl := flat_len l
  have HP1 : Hid (Pts w1 (some ⟨b, off, none⟩) l) := HP.out.mono hb1
  have hfit : 0 + (flat l).length ≤ cur.size := by omega
  have hnew : Hid (cur.toList.take 0 ++ (flat l ++ cur.toList.drop (0 + (flat l).length)) = flat l) := by
    unfold Hid
    rw [List.drop_of_length_le (by simp; omega)]
    simp
  clear hown hgrow HP
  have hrun := run_copyK (P := Try.prog) w1 22 22 3 28 w.heap.size 0 l.length l.length ⟨b, off, none⟩ l.length cap cur 28 (flat l) 2 l.length Try.underlying22 hi2 hc (Nat.min_self _) (by omega) (Pts.cells HP1.out) hfit (flat_cell l)
  rw [List.append_assoc, hnew.out] at hrun
  go_upto_region 3 with fail
  clear hrun
  have hc2 := setRow_heap w1 w.heap.size cur (flat l).toArray 28 (0, 0) hc
  have hb2 := below_setRow hb1 (Nat.le_refl _) (flat l).toArray
  clear hc hcs hb1 fl HP1 hfit hnew
  generalize w1.setRow w.heap.size (flat l).toArray = w2 at *
  have SF : Hid (Calls Try.prog 85 #[.slice (some ⟨w.heap.size, 0, none⟩) l.length l.length, .func (.func 86) #[] #[]] w2 fun e w' => e = .returned (.tuple #[]) ∧ ∃ D : List (Int × Int), D.Perm l ∧ asc D ∧ w'.heap[w.heap.size]? = some (.cells (flat D).toArray 28 (0, 0)) ∧ Below w.heap.size w2 w') := sortfunc_any w.heap.size l w2 (by omega) hc2 w.heap.size (Nat.le_refl _)
  go_wp2_with fail
  refine SF.out.mono ?_
  rintro e w3 ⟨rfl, D, hp, ha, hc3, hb3⟩
  go_wp2
  go_ret
  exact ⟨w.heap.size, D, rfl, Nat.le_refl _, hc3, hp, ha, hb2.trans hb3⟩
end
end Go.Proofs.Ytljdnahomhbenaa
