/- Lists of points: the law's own 'Left' and 'Lent'. -/
import Derived.Test.YtljdnahomhbenaaLst1
namespace Go.Proofs.Ytljdnahomhbenaa
section
open Go.RowKit Go.Sort

def marks (k : Nat) : List (Int × Int) := List.replicate k (77, -77)
theorem marks_len (k : Nat) : (marks k).length = k := by simp [marks]
theorem Pts.left {w : World} {ao : Option Addr} {l r : List (Int × Int)} (h : Pts w ao (l ++ r)) : Pts w ao l := fun i hi => by
  obtain ⟨b, off, e, c0, c1⟩ := h i (by simp; omega)
  have e2 : (l ++ r).getD i (0, 0) = l.getD i (0, 0) := by simp [List.getD, List.getElem?_append_left hi]
  rw [e2] at c0 c1
  exact ⟨b, off, e, c0, c1⟩
theorem marks_at (l : List (Int × Int)) (k i : Nat) (h : i < k) : (l ++ marks k).getD (l.length + i) (0, 0) = (77, -77) := by
  simp [marks, List.getD, h]

set_option maxRecDepth 20000 in
set_option maxHeartbeats 4000000 in
theorem left_true (g cap : Nat) (vo : Option Addr) (cv : Nat) (l : List (Int × Int)) (w : World) (hl : l.length ≤ 17592186043904) (hcap : l.length + 20 ≤ cap) (hm : cap ≤ maxLen)
    (ha : Pts w (some ⟨g, 0, none⟩) (l ++ marks 20)) (hb : Pts w vo l) :
    Calls Try.prog 14 #[.slice (some ⟨g, 0, none⟩) l.length cap, .slice vo l.length cv] w fun e w' => e = .returned (.bool true) ∧ Gr w w' := by
  have HA : Hid (Pts w (some ⟨g, 0, none⟩) (l ++ marks 20)) := ha
  have HB : Hid (Pts w vo l) := hb
  have hm' : cap ≤ 9223372036854775807 := by unfold maxLen at hm; omega
  have e20 : wrap64 ((l.length : Int) + 20) = (l.length : Int) + 20 := by unfold wrap64; omega
  clear ha hb hm
  go_enter Try.func14, Try.ntmps14
  go_wp2
  go_loopw [6] (fun i wr => ∃ k : Nat, k ≤ 20 ∧ i = .int .i64 ((l.length + k : Nat) : Int) ∧ Gr w wr) (fun i _ => l.length + 20 - (intOf i).toNat)
  case atStart => exact ⟨0, by omega, rfl, Gr.refl _⟩
  case round =>
    obtain ⟨k, hk, rfl, hG⟩ := hrel
    by_cases hlt : k < 20
    · obtain ⟨b, off, e, p0, p1⟩ := HA.out (l.length + k) (by simp [marks_len]; omega)
      simp only [Option.some.injEq, Addr.mk.injEq] at e
      obtain ⟨rfl, rfl, _⟩ := e
      rw [marks_at l 20 k hlt] at p0 p1
      replace p0 := below_cell p0 hG.below
      replace p1 := below_cell p1 hG.below
      have hlt' : l.length + k < l.length + 20 := by omega
      obtain ⟨j, hj⟩ : ∃ j, j = l.length + k := ⟨_, rfl⟩
      rw [← hj] at p0 p1 hlt' ⊢
      replace hj : Hid (j = l.length + k) := hj
      simp only [Nat.zero_add] at p0 p1
      go_wp2
      go_roundw
      case rel => exact ⟨k + 1, by omega, by have := hj.out; go_num, hG⟩
      case measure => have := hj.out; simp [intOf]; omega
    · have hkn : k = 20 := by omega
      subst hkn
      have SM : Hid (∀ wr, Gr w wr → Calls Try.prog 32 #[.slice (some ⟨g, 0, none⟩) l.length cap, .slice vo l.length cv] wr fun e w' => e = .returned (.bool true) ∧ Gr wr w') := fun wr g => same_true _ _ _ _ l wr (by omega) ((HA.out.left).mono g.below) (HB.out.mono g.below)
      go_wp2_with fail
      refine (SM.out _ hG).mono ?_
      rintro e w1 ⟨rfl, g1⟩
      go_wp2
      go_ret
      exact ⟨rfl, hG.trans g1⟩

theorem marks_succ (k : Nat) : marks (k + 1) = marks k ++ [(77, -77)] := List.replicate_succ'
theorem one_cells (w : World) (x0 x1 : Value) : ∀ (j : Nat) (u : Value), [x0, x1][j]? = some u → (w.alloc (.cells #[x0, x1] 28)).cell? ((⟨w.heap.size, 0, none⟩ : Addr).add j) = some u := by
  intro j u hj
  match j, hj with
  | 0, hj => simp at hj; subst hj; simp [Addr.add]
  | 1, hj => simp at hj; subst hj; simp [Addr.add]
theorem flat_one (l : List (Int × Int)) (p : Int × Int) : flat (l ++ [p]) = flat l ++ [.int .i32 p.1, .int .i32 p.2] := by rw [flat_append]; rfl
theorem flat_cell (l : List (Int × Int)) : ∀ u ∈ flat l, u.oneCell' = true := by
  induction l with
  | nil => simp [flat]
  | cons p r ih =>
    intro u hu
    simp only [flat, List.mem_cons] at hu
    rcases hu with rfl | rfl | hu
    · rfl
    · rfl
    · exact ih u hu
/-- What a slice of points holds, cell by cell. -/
theorem Pts.cells {w : World} {b off : Nat} {l : List (Int × Int)} (h : Pts w (some ⟨b, off, none⟩) l) : ∀ j u, (flat l)[j]? = some u → w.cell? ((⟨b, off, none⟩ : Addr).add j) = some u := by
  intro j u hj
  have hlen : j < l.length * 2 := by
    rw [← flat_len]
    exact (List.getElem?_eq_some_iff.mp hj).1
  obtain ⟨b', off', e, c0, c1⟩ := h (j / 2) (by omega)
  simp only [Option.some.injEq, Addr.mk.injEq] at e
  obtain ⟨rfl, rfl, _⟩ := e
  obtain ⟨f0, f1⟩ := flat_at l (j / 2) (by omega)
  have ea : (⟨b, off, none⟩ : Addr).add j = ⟨b, off + j, none⟩ := by unfold Addr.add; split <;> simp_all
  rw [ea]
  rcases Nat.mod_two_eq_zero_or_one j with q | q
  · have e : j / 2 * 2 = j := by omega
    rw [e] at c0 f0
    rw [hj] at f0
    rw [c0, ← f0]
  · have e : j / 2 * 2 + 1 = j := by omega
    rw [Nat.add_assoc, e] at c1
    rw [e, hj] at f1
    rw [c1, ← f1]

theorem Pts.cellsA {w : World} {a : Addr} {l : List (Int × Int)} (h : Pts w (some a) l) : ∀ j u, (flat l)[j]? = some u → w.cell? (a.add j) = some u := by
  intro j u hj
  have hlen : j < l.length * 2 := by
    rw [← flat_len]
    exact (List.getElem?_eq_some_iff.mp hj).1
  obtain ⟨b, off, e, _⟩ := h 0 (by omega)
  simp only [Option.some.injEq] at e
  subst e
  exact Pts.cells h j u hj

set_option maxRecDepth 20000 in
set_option maxHeartbeats 4000000 in
theorem lent_any (vo : Option Addr) (cv : Nat) (l : List (Int × Int)) (w : World) (hl : l.length ≤ 17592186043904) (hn : vo = none → l.length = 0 ∧ cv = 0) (hP : Pts w vo l) :
    Calls Try.prog 9 #[.slice vo l.length cv] w fun e w' => ∃ g cap, e = .returned (.slice (some ⟨g, 0, none⟩) l.length cap) ∧ w'.ownsRow w.heap.size 28 2 (.slice (some ⟨g, 0, none⟩) (l ++ marks 20).length cap) (l ++ marks 20).length (flat (l ++ marks 20)) ∧ Below w.heap.size w w' := by
  obtain ⟨i0, hi, hz0, hz1, hz2⟩ := info_parts Try.info28
  have HP : Hid (Pts w vo l) := hP
  clear hP
  go_enter Try.func9, Try.ntmps9
  go_upto_region 2 with fail
  go_cut [3] (fun s w' => w'.ownsRow w.heap.size 28 2 s l.length (flat l) ∧ Below w.heap.size w w')
  case first =>
    cases vo with
    | none =>
      obtain ⟨h0, rfl⟩ := hn rfl
      have hnil : l = [] := List.eq_nil_of_length_eq_zero h0
      subst hnil
      clear HP hn h0
      go_wp2_with (at_builtin; refine wpList_append_own_none rfl (.tmp 5) (.tmp 6) 22 rfl w.heap.size 28 i0 2 Try.underlying22 hi (.slice none 0 0) 0 [] rfl (World.ownsRow_nil _ _ _ _) rfl ?_)
      go_meet
      case rel => exact ⟨World.ownsRow_nil _ _ _ _, Below.refl _ _⟩
    | some a =>
      have fl := flat_len l
      go_wp2_with (at_builtin; refine wpList_append_own _ rfl (.tmp 5) (.tmp 6) 22 rfl w.heap.size 28 i0 (.agg #[.int .i32 0, .int .i32 0]) 2 8 Try.underlying22 hi hz0 hz1 hz2 rfl (by decide) (.slice none 0 0) 0 [] rfl (World.ownsRow_nil _ _ _ _) a l.length cv (flat l) rfl fl (Pts.cellsA HP.out) (flat_cell l) (by unfold maxLen; omega) (by omega) (Nat.le_refl _) ?_)
      intro sv w1 hown hgrow _
      have hb1 : Below w.heap.size w w1 := (Below.refl _ _).grown hgrow (Nat.le_refl _) (fun k hk => by cases hk)
      clear hgrow
      go_wp2
      go_meet
      case rel => exact ⟨hown, hb1⟩
  case rest =>
    obtain ⟨hown, hb⟩ := hcut
    clear HP hn
    go_wp2
    go_loopw [3, 4] (fun s i wr => ∃ k : Nat, k ≤ 20 ∧ i = .int .i64 k ∧ wr.ownsRow w.heap.size 28 2 s (l.length + k) (flat (l ++ marks k)) ∧ Below w.heap.size w wr) (fun _ i _ => 20 - (intOf i).toNat)
    case atStart => exact ⟨0, by omega, rfl, by simpa [marks] using hown, hb⟩
    case round =>
      clear hown hb
      obtain ⟨k, hk, rfl, hown, hb⟩ := hrel
      by_cases hlt : k < 20
      · have hsz := hb.size
        go_wp2_with (at_builtin; refine wpList_append_own _ rfl (.tmp 12) (.tmp 14) 22 rfl w.heap.size 28 i0 (.agg #[.int .i32 0, .int .i32 0]) 2 8 Try.underlying22 hi hz0 hz1 hz2 rfl (by decide) _ (l.length + k) _ rfl (hown.alloc _) ⟨wr.heap.size, 0, none⟩ 1 1 [.int .i32 77, .int .i32 (-77)] rfl rfl (one_cells _ _ _) (fun u hu => by simp at hu; rcases hu with rfl | rfl <;> rfl) (by unfold maxLen; omega) (by omega) (by simp; omega) ?_)
        intro sv w1 hown1 hgrow _
        have hb1 : Below w.heap.size w w1 := (hb.alloc hsz _).grown hgrow (by simp; omega) (fun j hj => (hown.lt j hj).1)
        have hown2 : w1.ownsRow w.heap.size 28 2 sv (l.length + (k + 1)) (flat (l ++ marks (k + 1))) := by
          rw [marks_succ, ← List.append_assoc, flat_one]
          exact hown1
        clear hgrow hown hown1 hb
        go_wp2
        go_roundw
        case rel => exact ⟨k + 1, by omega, by go_num, hown2, hb1⟩
        case measure => simp [intOf]; omega
      · have hkn : k = 20 := by omega
        subst hkn
        obtain ⟨g, cap, rfl, hcap, hg⟩ := own2_shape (k := l.length + 19) hown
        have hle : l.length ≤ cap := by omega
        have hle2 : l.length ≤ l.length + 19 + 1 := by omega
        have hown' : wr.ownsRow w.heap.size 28 2 (.slice (some ⟨g, 0, none⟩) (l ++ marks 20).length cap) (l ++ marks 20).length (flat (l ++ marks 20)) := by
          rw [List.length_append, marks_len]; exact hown
        replace hown' : Hid (wr.ownsRow w.heap.size 28 2 (.slice (some ⟨g, 0, none⟩) (l ++ marks 20).length cap) (l ++ marks 20).length (flat (l ++ marks 20))) := hown'
        clear hown
        go_wp2
        go_ret
        exact ⟨g, cap, rfl, hown'.out, hb⟩
end
end Go.Proofs.Ytljdnahomhbenaa
