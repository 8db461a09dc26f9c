/- slices.Clone and slices.SortFunc of dues. -/
import Derived.Test.YtaapdkjmlplhgaaShelf
import Derived.Test.YtaapdkjmlplhgaaHm
import Derived.Laws.AppendOwn
set_option linter.unusedSimpArgs false
set_option linter.unusedVariables false
namespace Go.Proofs.Ytaapdkjmlplhgaa
open Go.RowKit Go.Sort Go.Shelf

theorem sorted_ext : ∀ {L1 L2 : List Du}, L1.Pairwise (fun a b => ltD a b = true) → L2.Pairwise (fun a b => ltD a b = true) → (∀ x, x ∈ L1 ↔ x ∈ L2) → L1 = L2
  | [], [], _, _, _ => rfl
  | [], y :: r, _, _, h => by have := (h y).2 (List.mem_cons_self); cases this
  | x :: r, [], _, _, h => by have := (h x).1 (List.mem_cons_self); cases this
  | x :: r, y :: t, h1, h2, h => by
    rw [List.pairwise_cons] at h1 h2
    have e : x = y := by
      rcases List.mem_cons.1 ((h x).1 List.mem_cons_self) with e | hx
      · exact e
      · rcases List.mem_cons.1 ((h y).2 List.mem_cons_self) with e | hy
        · exact e.symm
        · have a := h2.1 x hx
          have b := h1.1 y hy
          rw [lt_nlt a] at b
          cases b
    subst e
    congr 1
    refine sorted_ext h1.2 h2.2 fun z => ?_
    have nz1 : z ∈ r → z ≠ x := fun hz e => by subst e; have := h1.1 z hz; rw [lt_irr] at this; cases this
    have nz2 : z ∈ t → z ≠ x := fun hz e => by subst e; have := h2.1 z hz; rw [lt_irr] at this; cases this
    constructor
    · intro hz
      rcases List.mem_cons.1 ((h z).1 (List.mem_cons_of_mem _ hz)) with e | h'
      · exact absurd e (nz1 hz)
      · exact h'
    · intro hz
      rcases List.mem_cons.1 ((h z).2 (List.mem_cons_of_mem _ hz)) with e | h'
      · exact absurd e (nz2 hz)
      · exact h'
theorem flatK_flat (l : List Du) (t : Nat) (h : t < l.length * 3) : (flat l)[t]? = some (flatK dL 3 l.toArray)[t]! := by
  rw [get_flatK _ _ _ _ (by simpa using h)]
  have e : l.toArray[t / 3]! = l.getD (t / 3) (0, 0, 0) := by
    have : t / 3 < l.length := by omega
    simp [List.getD, this]
  rw [e]
  have f := flat_at l (t / 3) (t % 3) (by omega) (by omega)
  rw [show t / 3 * 3 + t % 3 = t by omega] at f
  rw [f]
  have hm : t % 3 = 0 ∨ t % 3 = 1 ∨ t % 3 = 2 := by omega
  rcases hm with q | q | q <;> rw [q] <;> rfl
theorem holds_row {w : World} {g : Nat} {l : List Du} (h : RowAt w g l) : HoldsK dL 3 w g 0 l.toArray := fun j hj => by
  obtain ⟨r, h⟩ := h
  rw [size_flatK] at hj
  have hj' : j < l.length * 3 := by simpa using hj
  have f := flatK_flat l j hj'
  constructor
  · rw [Nat.zero_add, h.at, List.getElem?_append_left (by rw [flat_len]; exact hj'), f]
    rfl
  · rw [Nat.zero_add]; exact h.frozen j
theorem row_sorted {w : World} {g m : Nat} {l : List Du} {dk : Array Du} {os : Array Obj} (h : RowAt w g l) (hs : dk.size = l.length) : RowAt (sortWorldK dL 3 w g 0 m dk os) g dk.toList := by
  have hlt := h.lt
  have hH := holdsK_sortWorldK_c dL 3 w g 0 l.toArray dk m os (holds_row h) hlt (by simpa using hs)
  obtain ⟨r, h0⟩ := h
  have shape : ∃ cur : Array Value, (sortWorldK dL 3 w g 0 m dk os).heap[g]? = some (.cells cur 32 (0, 0)) ∧ cur.size = (flat l ++ r).length := by
    unfold Bk at h0
    have h' : w.heap[g] = .cells (flat l ++ r).toArray 32 (0, 0) := by simpa [Array.getElem?_eq_getElem hlt] using h0
    refine ⟨putCells id 0 (flatK dL 3 dk) (flat l ++ r).toArray, ?_, by simp [putCells]⟩
    show ((w.heap.modify g _) ++ os)[g]? = _
    rw [Array.getElem?_append_left (by simpa using hlt), Array.getElem?_eq_getElem (by simpa using hlt), Array.getElem_modify_self, h']
    rfl
  obtain ⟨cur, hc, hz⟩ := shape
  refine ⟨cur.toList.drop (l.length * 3), ?_⟩
  have hfl := flat_len l
  have et : cur.toList.take (l.length * 3) = flat dk.toList := by
    apply List.ext_getElem?
    intro j
    by_cases hj : j < l.length * 3
    · have c := (hH j (by rw [size_flatK, hs]; exact hj)).1
      simp only [Nat.zero_add, World.cell?, hc] at c
      have f := flatK_flat dk.toList j (by simpa [hs] using hj)
      simp only [Array.toArray_toList] at f
      have c' : cur[j]? = some (flatK dL 3 dk)[j]! := by simpa using c
      rw [f, List.getElem?_take, if_pos hj, Array.getElem?_toList]
      exact c'
    · rw [List.getElem?_take, if_neg hj, List.getElem?_eq_none (by rw [flat_len]; simp [hs]; omega)]
  unfold Bk
  rw [hc, ← et, List.take_append_drop]
theorem sort_below {w : World} {g m B : Nat} {dk : Array Du} {os : Array Obj} (hB : B ≤ g) (hg : g < w.heap.size) : Below B w (sortWorldK dL 3 w g 0 m dk os) := by
  refine ⟨rfl, rfl, rfl, size_sortWorldK_c dL 3 w g 0 m dk os, fun k hk => ?_⟩
  show ((w.heap.modify g _) ++ os)[k]? = _
  rw [Array.getElem?_append_left (by simp; omega), Array.getElem?_modify]
  split
  · omega
  · rfl
theorem cmp_lays (g : Nat) (n : Nat) (w : World) : CmpLays Try.prog 21 #[] dL 3 cfD g 0 n w := fun m os dk _ x y => order_any x y _
theorem enters21 : ∀ args w, (callFunc 21 args).run Try.prog w = .ok (.enter 21 args) w := enters_of Try.func21 (by kernel_rfl) rfl
theorem sortfunc_any (g cap : Nat) (l : List Du) (w : World) (hl : l.length ≤ 5000) (h : RowAt w g l) (B : Nat) (hB : B ≤ g) :
    Calls Try.prog 44 #[.slice (some ⟨g, 0, none⟩) l.length cap, .func (.func 21) #[] #[]] w fun e w' => e = .returned (.tuple #[]) ∧ ∃ D : List Du, D.Perm l ∧ D.Pairwise (fun a b => ltD b a = false) ∧ RowAt w' g D ∧ Below B w w' := by
  have hlt := h.lt
  have H := AnyQ.slices_SortFunc (P := Try.prog) (ρ := Try.laysSort_ren) Try.laysSort 3 (fun w => by kernel_rfl) (fun w => by kernel_rfl) dL (fun x => rfl) dL_cell cfD swoD 21 #[] g 0 cap l.toArray w enters21 (cmp_lays g _ w) (holds_row h) hlt (by simp; omega)
  have e : l.toArray.size = l.length := by simp
  rw [e] at H
  refine H.mono fun e' w' ⟨he, d', n, os, hp, hs, hw⟩ => ?_
  subst hw
  have hsz : d'.size = l.length := by simpa using hp.1
  refine ⟨he, d'.toList, ?_, ?_, row_sorted h hsz, sort_below hB hlt⟩
  · have := hp.2.2
    simp at this
    rwa [List.take_of_length_le (by simp [hsz])] at this
  · rw [List.pairwise_iff_getElem]
    intro i j hi hj hij
    have := hs i j (Nat.zero_le _) hij (by simpa [hsz] using hj)
    rw [ltOf_eq] at this
    have a : i < d'.size := by simpa using hi
    have b : j < d'.size := by simpa using hj
    simpa [getElem!_pos, a, b] using this
end Go.Proofs.Ytaapdkjmlplhgaa
