/- The law's turned. -/
import Derived.Test.YtpdhknclhpifkabAw
namespace Go.Proofs.Ytpdhknclhpifkab
open Go.RowKit Go.Shelf Go.Sort

def flat : List (Int × Int) → List Value
  | [] => []
  | p :: r => .int .i32 p.1 :: .int .i32 p.2 :: flat r
theorem flat_at (l : List (Int × Int)) (i : Nat) (h : i < l.length) : (flat l)[i * 2]? = some (.int .i32 (l.getD i (0, 0)).1) ∧ (flat l)[i * 2 + 1]? = some (.int .i32 (l.getD i (0, 0)).2) := by
  induction l generalizing i with
  | nil => simp at h
  | cons p r ih =>
    cases i with
    | zero => simp [flat]
    | succ j =>
      have := ih j (by simpa using h)
      rw [show (j + 1) * 2 = j * 2 + 1 + 1 by omega]
      simpa [flat] using this
theorem flat_len (l : List (Int × Int)) : (flat l).length = l.length * 2 := by
  induction l with
  | nil => rfl
  | cons p r ih => simp [flat, ih]; omega
theorem flat_append (l r : List (Int × Int)) : flat (l ++ r) = flat l ++ flat r := by
  induction l with
  | nil => rfl
  | cons p q ih => simp [flat, ih]
theorem flat_one (l : List (Int × Int)) (p : Int × Int) : flat (l ++ [p]) = flat l ++ [.int .i32 p.1, .int .i32 p.2] := by rw [flat_append]; rfl
theorem one_cells (w : World) (x0 x1 : Value) : ∀ (j : Nat) (u : Value), [x0, x1][j]? = some u → (w.alloc (.cells #[x0, x1] 25)).cell? ((⟨w.heap.size, 0, none⟩ : Addr).add j) = some u := by
  intro j u hj
  match j, hj with
  | 0, hj => simp at hj; subst hj; simp [Addr.add]
  | 1, hj => simp at hj; subst hj; simp [Addr.add]
theorem Pts.of_own {w : World} {base : Nat} {g cap : Nat} {l : List (Int × Int)} (h : w.ownsRow base 25 2 (.slice (some ⟨g, 0, none⟩) l.length cap) l.length (flat l)) : Pts w (some ⟨g, 0, none⟩) l := fun i hi => by
  obtain ⟨f0, f1⟩ := flat_at l i hi
  have c0 := h.cells (g := g) rfl _ _ f0
  have c1 := h.cells (g := g) rfl _ _ f1
  have e : ∀ k, (⟨g, 0, none⟩ : Addr).add k = ⟨g, 0 + k, none⟩ := fun k => by unfold Addr.add; split <;> simp_all
  rw [e] at c0 c1
  exact ⟨g, 0, rfl, c0, by rw [← c1]; rfl⟩
theorem own_pts {w : World} {base n : Nat} {sv : Value} {R : List (Int × Int)} (h : w.ownsRow base 25 2 sv n (flat R)) : ∃ ro rc, sv = .slice ro n rc ∧ Pts w ro R ∧ R.length = n := by
  have hl : R.length = n := by have := h.1; rw [flat_len] at this; omega
  rcases h.2 with ⟨rfl, hn⟩ | ⟨g, cap, cur, rfl, _⟩
  · refine ⟨none, 0, by rw [hn], fun i hi => ?_, hl⟩
    omega
  · exact ⟨_, cap, rfl, Pts.of_own (base := base) (cap := cap) (by rw [hl]; exact h), hl⟩
theorem Pts.get {w : World} {ao : Option Addr} {L : List (Int × Int)} (h : Pts w ao L) {i : Nat} (hi : i < L.length) : ∃ b off, ao = some ⟨b, off, none⟩ ∧
    w.cell? ⟨b, off + i * 2, none⟩ = some (.int .i32 (L.getD i (0, 0)).1) ∧ w.cell? ⟨b, off + i * 2 + 1, none⟩ = some (.int .i32 (L.getD i (0, 0)).2) := h i hi
/-- The first k of them. -/
def rotK (L : List (Int × Int)) (R : Nat) (back : Bool) (k : Nat) : List (Int × Int) := (List.range k).map fun i => L.getD (if back then L.length - 1 - (R + i) % L.length else (R + i) % L.length) (0, 0)
theorem rotK_succ (L : List (Int × Int)) (R : Nat) (back : Bool) (k : Nat) : rotK L R back (k + 1) = rotK L R back k ++ [L.getD (if back then L.length - 1 - (R + k) % L.length else (R + k) % L.length) (0, 0)] := by simp [rotK, List.range_succ]

set_option maxRecDepth 100000 in
set_option maxHeartbeats 8000000 in
theorem turned_any (ao : Option Addr) (cap : Nat) (L : List (Int × Int)) (hlen : L.length ≤ 17592186043904) (n : Int) (back : Bool) (w : World) (hP : Pts w ao L) :
    Calls Try.prog 11 #[.slice ao L.length cap, .int .i64 n, .bool back] w fun e w' => ∃ sv R, e = .returned sv ∧ w'.ownsRow w.heap.size 25 2 sv L.length (flat (rotL L R back)) ∧ Below w.heap.size w w' := by
  obtain ⟨i0, hi, hz0, hz1, hz2⟩ := info_parts Try.info25
  have HP : Hid (Pts w ao L) := hP
  clear hP
  obtain ⟨R, hR⟩ : ∃ R : Nat, R = (n.tmod (L.length : Int) + L.length).toNat := ⟨_, rfl⟩
  have hT : L.length ≠ 0 → -(L.length : Int) < n.tmod (L.length : Int) ∧ n.tmod (L.length : Int) < L.length := fun h => by
    have h1 := Int.tmod_lt_of_pos n (show (0 : Int) < L.length by omega)
    have h2 := Int.lt_tmod_of_pos n (show (0 : Int) < L.length by omega)
    omega
  replace hT : Hid (L.length ≠ 0 → -(L.length : Int) < n.tmod (L.length : Int) ∧ n.tmod (L.length : Int) < L.length) := hT
  replace hR : Hid (R = (n.tmod (L.length : Int) + L.length).toNat) := hR
  go_enter Try.func11, Try.ntmps11
  go_wp2
  go_loopw [7, 8] (fun s i wr => ∃ k : Nat, k ≤ L.length ∧ i = .int .i64 k ∧ wr.ownsRow w.heap.size 25 2 s k (flat (rotK L R back k)) ∧ Below w.heap.size w wr) (fun _ i _ => L.length - (intOf i).toNat)
  case atStart => exact ⟨0, by omega, rfl, World.ownsRow_nil _ _ _ _, Below.refl _ _⟩
  case round =>
    obtain ⟨k, hk, rfl, hown, hB⟩ := hrel
    by_cases hlt : k < L.length
    · have hne : ¬ L = [] := by rintro rfl; simp at hlt
      obtain ⟨hT1, hT2⟩ := hT.out (by omega)
      have hR' := hR.out
      obtain ⟨m, hm⟩ : ∃ m, m = (R + k) % L.length := ⟨_, rfl⟩
      have hml : m < L.length := by rw [hm]; exact Nat.mod_lt _ (by omega)
      have em : (wrap64 (wrap64 (n.tmod (L.length : Int) + L.length) + k)).tmod (L.length : Int) = (m : Int) := by
        rw [hm, hR']
        generalize n.tmod (L.length : Int) = T at *
        have h1 : wrap64 (T + L.length) = T + L.length := by unfold wrap64; omega
        rw [h1]
        have h2 : wrap64 (T + L.length + k) = T + L.length + k := by unfold wrap64; omega
        rw [h2, Int.tmod_eq_emod_of_nonneg (by omega)]
        push_cast
        congr 1
        omega
      have hsz := hB.size
      replace hm : Hid (m = (R + k) % L.length) := hm
      clear hR' hR hT hT1 hT2
      cases back with
      | false =>
        obtain ⟨b, off, rfl, c0, c1⟩ := (HP.out.mono hB).get hml
        have hst : Hid (rotK L R false (k + 1) = rotK L R false k ++ [((L.getD m (0, 0)).1, (L.getD m (0, 0)).2)]) := by unfold Hid; rw [rotK_succ, ← hm.out]; rfl
        generalize (L.getD m (0, 0)).1 = X at *
        generalize (L.getD m (0, 0)).2 = Y at *
        clear HP
        go_wp2_with (at_builtin; refine wpList_append_own _ rfl (.tmp 34) (.tmp 39) 22 rfl w.heap.size 25 i0 (.agg #[.int .i32 0, .int .i32 0]) 2 8 Try.underlying22 hi hz0 hz1 hz2 rfl (by decide) _ k _ rfl (hown.alloc _) ⟨wr.heap.size, 0, none⟩ 1 1 [.int .i32 X, .int .i32 Y] rfl rfl (one_cells _ _ _) (fun u hu => by simp at hu; rcases hu with rfl | rfl <;> rfl) (by unfold maxLen; omega) (by omega) (by simp; omega) ?_; intro sv w1 hown1 hgrow _)
        have hg1 : (wr.alloc (.cells #[.int .i32 X, .int .i32 Y] 25)).grownBy w1 u7.ownBlock := hgrow
        have hb1 : Below w.heap.size w w1 := (hB.alloc hsz _).grown hg1 (by simp; omega) (fun j hj => (hown.lt j hj).1)
        refine ⟨⟨k + 1, by omega, by go_num, by rw [hst.out, flat_one]; exact hown1, hb1⟩, by simp [intOf]; omega⟩
      | true =>
        obtain ⟨j, hj⟩ : ∃ j, j = L.length - 1 - m := ⟨_, rfl⟩
        have hjl : j < L.length := by omega
        have ej : (L.length : Int) - 1 - (m : Int) = (j : Int) := by omega
        obtain ⟨b, off, rfl, c0, c1⟩ := (HP.out.mono hB).get hjl
        have hst : Hid (rotK L R true (k + 1) = rotK L R true k ++ [((L.getD j (0, 0)).1, (L.getD j (0, 0)).2)]) := by unfold Hid; rw [rotK_succ, ← hm.out, hj]; rfl
        clear hj
        generalize (L.getD j (0, 0)).1 = X at *
        generalize (L.getD j (0, 0)).2 = Y at *
        clear HP
        go_wp2_with (at_builtin; refine wpList_append_own _ rfl (.tmp 34) (.tmp 39) 22 rfl w.heap.size 25 i0 (.agg #[.int .i32 0, .int .i32 0]) 2 8 Try.underlying22 hi hz0 hz1 hz2 rfl (by decide) _ k _ rfl (hown.alloc _) ⟨wr.heap.size, 0, none⟩ 1 1 [.int .i32 X, .int .i32 Y] rfl rfl (one_cells _ _ _) (fun u hu => by simp at hu; rcases hu with rfl | rfl <;> rfl) (by unfold maxLen; omega) (by omega) (by simp; omega) ?_; intro sv w1 hown1 hgrow _)
        have hg1 : (wr.alloc (.cells #[.int .i32 X, .int .i32 Y] 25)).grownBy w1 u7.ownBlock := hgrow
        have hb1 : Below w.heap.size w w1 := (hB.alloc hsz _).grown hg1 (by simp; omega) (fun j hj => (hown.lt j hj).1)
        refine ⟨⟨k + 1, by omega, by go_num, by rw [hst.out, flat_one]; exact hown1, hb1⟩, by simp [intOf]; omega⟩
    · have hkn : k = L.length := by omega
      subst hkn
      go_wp2
      go_ret
      exact ⟨_, R, rfl, hown, hB⟩
end Go.Proofs.Ytpdhknclhpifkab
