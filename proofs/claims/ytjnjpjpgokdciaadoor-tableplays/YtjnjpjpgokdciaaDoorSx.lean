/- TableBits: three sets beside the document's own. -/
import Derived.Test.YtjnjpjpgokdciaaDoorBo
import Derived.Test.YtjnjpjpgokdciaaDoorLv
set_option linter.unusedSimpArgs false
set_option linter.unusedVariables false
namespace Go.Proofs.YtjnjpjpgokdciaaDoor
open Go.RowKit Go.Sort Go.Shelf

def cB (b : Nat → Nat) (k i : Nat) : Value := if i < k then pT (b i) else .pointer none
def upd (b : Nat → Nat) (k x : Nat) : Nat → Nat := fun i => if i = k then x else b i
def updT (T : Nat → List Bool) (k : Nat) (x : List Bool) : Nat → List Bool := fun i => if i = k then x else T i
abbrev cBs (b : Nat → Nat) (k : Nat) : List Value := [cB b k 0, cB b k 1, cB b k 2]
theorem cBs_set (b : Nat → Nat) (k x : Nat) (hk : k < 3) : (cBs b k).set k (pT x) = cBs (upd b k x) (k + 1) := by
  match k, hk with
  | 0, _ => simp [cB, upd]
  | 1, _ => simp [cB, upd]
  | 2, _ => simp [cB, upd]
theorem cBs_at (b : Nat → Nat) (i : Nat) (hi : i < 3) : (cBs b 3)[i]? = some (pT (b i)) := by
  match i, hi with
  | 0, _ => simp [cB]
  | 1, _ => simp [cB]
  | 2, _ => simp [cB]
/-- The first k of three sets, and of the document's own, in their arrays' blocks. -/
structure Sx (B : Nat) (w : World) (x5 x6 k : Nat) (b g r q : Nat → Nat) (T : Nat → List Bool) : Prop where
  k5 : Bk w x5 73 (cBs b k)
  k6 : Bk w x6 75 (cBs r k)
  one : ∀ i, i < k → ∃ W, BitsIs w (b i) (g i) (T i) W
  two : ∀ i, i < k → RBits w (r i) (q i) (T i)
  lo : ∀ i, i < k → B ≤ g i ∧ B ≤ q i
  ne : ∀ i j, i < k → j < k → i ≠ j → g i ≠ g j ∧ q i ≠ q j
section
variable {B : Nat} {w w' : World} {x5 x6 k : Nat} {b g r q : Nat → Nat} {T : Nat → List Bool}
theorem Sx.gr (h : Sx B w x5 x6 k b g r q T) (c : Gr w w') : Sx B w' x5 x6 k b g r q T :=
  ⟨h.k5.gr c, h.k6.gr c, fun i hi => by obtain ⟨W, hW⟩ := h.one i hi; exact ⟨W, hW.gr c⟩, fun i hi => (h.two i hi).gr c, h.lo, h.ne⟩
theorem Sx.below (h : Sx B w x5 x6 k b g r q T) (c : Below w.heap.size w w') : Sx B w' x5 x6 k b g r q T :=
  ⟨h.k5.mono c h.k5.lt, h.k6.mono c h.k6.lt, fun i hi => by obtain ⟨W, hW⟩ := h.one i hi; exact ⟨W, hW.belowS c⟩, fun i hi => (h.two i hi).below c, h.lo, h.ne⟩
theorem bk_ne {w : World} {x y t u : Nat} {l m : List Value} (h : Bk w x t l) (k : Bk w y u m) (e : t ≠ u) : x ≠ y := fun h2 => by subst h2; exact e (bk_ty h k)
/-- A cell of a block of another type is turned. -/
theorem Sx.other {y u : Nat} {m : List Value} (h : Sx B w x5 x6 k b g r q T) (hy : Bk w y u m) (h5 : u ≠ 73) (h6 : u ≠ 75) (h1 : u ≠ 90) (h2 : u ≠ 116) (h3 : u ≠ 114) (h4 : u ≠ 4) (i : Nat) (v : Value) : Sx B (w.setCell ⟨y, i, none⟩ v) x5 x6 k b g r q T :=
  ⟨h.k5.other (a := ⟨y, i, none⟩) (bk_ne h.k5 hy (fun e => h5 e.symm)) v, h.k6.other (a := ⟨y, i, none⟩) (bk_ne h.k6 hy (fun e => h6 e.symm)) v,
    fun j hj => by
      obtain ⟨W, hW⟩ := h.one j hj
      exact ⟨W, hW.blk.other (a := ⟨y, i, none⟩) (bk_ne hW.blk hy (fun e => h1 e.symm)) v, hW.row.other (a := ⟨y, i, none⟩) (bk_ne hW.row hy (fun e => h2 e.symm)) v, hW.rep, hW.most⟩,
    fun j hj => ⟨(h.two j hj).blk.other (a := ⟨y, i, none⟩) (bk_ne (h.two j hj).blk hy (fun e => h3 e.symm)) v, (h.two j hj).row.other (a := ⟨y, i, none⟩) (bk_ne (h.two j hj).row hy (fun e => h4 e.symm)) v⟩, h.lo, h.ne⟩
/-- A set more. -/
theorem Sx.more {w1 w3 : World} {b' g' r' q' : Nat} {T' : List Bool} {W' : List Nat} (h : Sx B w x5 x6 k b g r q T) (hk : k < 3) (hB : B ≤ w.heap.size) (c1 : Gr w w1) (n1 : BitsIs w1 b' g' T' W') (lb : w.heap.size ≤ b') (lg : w.heap.size ≤ g')
    (c3 : Gr (w1.setCell ⟨x5, k, none⟩ (pT b')) w3) (n3 : RBits w3 r' q' T') (lr : (w1.setCell ⟨x5, k, none⟩ (pT b')).heap.size ≤ r') (lq : (w1.setCell ⟨x5, k, none⟩ (pT b')).heap.size ≤ q') :
    Sx B (w3.setCell ⟨x6, k, none⟩ (pT r')) x5 x6 (k + 1) (upd b k b') (upd g k g') (upd r k r') (upd q k q') (updT T k T') := by
  have hs2 : (w1.setCell ⟨x5, k, none⟩ (pT b')).heap.size = w1.heap.size := by simp
  rw [hs2] at lr lq
  have hs1 := c1.size
  have h1 := h.gr c1
  have k52 : Bk (w1.setCell ⟨x5, k, none⟩ (pT b')) x5 73 (cBs (upd b k b') (k + 1)) := by rw [← cBs_set b k b' hk]; exact h1.k5.set k _
  have k62 : Bk (w1.setCell ⟨x5, k, none⟩ (pT b')) x6 75 (cBs r k) := h1.k6.other (a := ⟨x5, k, none⟩) (bk_ne h1.k6 h1.k5 (by decide)) _
  have one2 : ∀ i, i < k → ∃ W, BitsIs (w1.setCell ⟨x5, k, none⟩ (pT b')) (b i) (g i) (T i) W := fun i hi => by
    obtain ⟨W, hW⟩ := h1.one i hi
    exact ⟨W, hW.blk.other (a := ⟨x5, k, none⟩) (bk_ne hW.blk h1.k5 (by decide)) _, hW.row.other (a := ⟨x5, k, none⟩) (bk_ne hW.row h1.k5 (by decide)) _, hW.rep, hW.most⟩
  have new2 : BitsIs (w1.setCell ⟨x5, k, none⟩ (pT b')) b' g' T' W' := ⟨n1.blk.other (a := ⟨x5, k, none⟩) (bk_ne n1.blk h1.k5 (by decide)) _, n1.row.other (a := ⟨x5, k, none⟩) (bk_ne n1.row h1.k5 (by decide)) _, n1.rep, n1.most⟩
  have two2 : ∀ i, i < k → RBits (w1.setCell ⟨x5, k, none⟩ (pT b')) (r i) (q i) (T i) := fun i hi =>
    ⟨(h1.two i hi).blk.other (a := ⟨x5, k, none⟩) (bk_ne (h1.two i hi).blk h1.k5 (by decide)) _, (h1.two i hi).row.other (a := ⟨x5, k, none⟩) (bk_ne (h1.two i hi).row h1.k5 (by decide)) _⟩
  have k63 : Bk w3 x6 75 (cBs r k) := k62.gr c3
  refine ⟨(k52.gr c3).other (a := ⟨x6, k, none⟩) (bk_ne (k52.gr c3) k63 (by decide)) _, ?_, fun i hi => ?_, fun i hi => ?_, fun i hi => ?_, fun i j hi hj hij => ?_⟩
  · rw [← cBs_set r k r' hk]; exact k63.set k _
  · by_cases e : i = k
    · subst e
      refine ⟨W', ?_⟩
      have n := new2.gr c3
      simp only [upd, updT, if_true]
      exact ⟨n.blk.other (a := ⟨x6, i, none⟩) (bk_ne n.blk k63 (by decide)) _, n.row.other (a := ⟨x6, i, none⟩) (bk_ne n.row k63 (by decide)) _, n.rep, n.most⟩
    · obtain ⟨W, hW⟩ := one2 i (by omega)
      refine ⟨W, ?_⟩
      have n := hW.gr c3
      simp only [upd, updT, if_neg e]
      exact ⟨n.blk.other (a := ⟨x6, k, none⟩) (bk_ne n.blk k63 (by decide)) _, n.row.other (a := ⟨x6, k, none⟩) (bk_ne n.row k63 (by decide)) _, n.rep, n.most⟩
  · by_cases e : i = k
    · subst e
      simp only [upd, updT, if_true]
      exact ⟨n3.blk.other (a := ⟨x6, i, none⟩) (bk_ne n3.blk k63 (by decide)) _, n3.row.other (a := ⟨x6, i, none⟩) (bk_ne n3.row k63 (by decide)) _⟩
    · have n := (two2 i (by omega)).gr c3
      simp only [upd, updT, if_neg e]
      exact ⟨n.blk.other (a := ⟨x6, k, none⟩) (bk_ne n.blk k63 (by decide)) _, n.row.other (a := ⟨x6, k, none⟩) (bk_ne n.row k63 (by decide)) _⟩
  · by_cases e : i = k
    · subst e
      simp only [upd, if_true]
      omega
    · simp only [upd, if_neg e]
      exact h.lo i (by omega)
  · have lt : ∀ i, i < k → g i < w.heap.size ∧ q i < w.heap.size := fun i hi => by
      obtain ⟨W, hW⟩ := h.one i hi
      exact ⟨hW.row.lt, (h.two i hi).row.lt⟩
    by_cases e : i = k
    · subst e
      have hj2 : j ≠ i := fun e => hij e.symm
      simp only [upd, if_true, if_neg hj2]
      have := lt j (by omega)
      omega
    · by_cases e2 : j = k
      · subst e2
        simp only [upd, if_true, if_neg e]
        have := lt i (by omega)
        omega
      · simp only [upd, if_neg e, if_neg e2]
        exact h.ne i j (by omega) (by omega) hij
/-- One of the sets, and the document's own, are turned. -/
theorem Sx.turn {i : Nat} {T' : List Bool} {W' : List Nat} (h : Sx B w x5 x6 3 b g r q T) (hi : i < 3) (n1 : BitsIs w' (b i) (g i) T' W') (n2 : RBits w' (r i) (q i) T') (c : Chg (fun j => j = g i ∨ j = q i) w w') :
    Sx B w' x5 x6 3 b g r q (updT T i T') := by
  obtain ⟨W0, o1⟩ := h.one i hi
  have o2 := h.two i hi
  have away : ∀ {y u : Nat} {m : List Value}, Bk w y u m → u ≠ 116 → u ≠ 4 → Bk w' y u m := fun {y u m} hy h1 h2 => hy.chg c (fun e => by
    rcases e with e | e
    · exact (bk_ne hy o1.row h1) e
    · exact (bk_ne hy o2.row h2) e)
  refine ⟨away h.k5 (by decide) (by decide), away h.k6 (by decide) (by decide), fun j hj => ?_, fun j hj => ?_, h.lo, h.ne⟩
  · by_cases e : j = i
    · subst e
      simp only [updT, if_true]
      exact ⟨W', n1⟩
    · obtain ⟨W, hW⟩ := h.one j hj
      simp only [updT, if_neg e]
      refine ⟨W, away hW.blk (by decide) (by decide), hW.row.chg c (fun e2 => ?_), hW.rep, hW.most⟩
      rcases e2 with e2 | e2
      · exact (h.ne j i hj hi e).1 e2
      · exact (bk_ne hW.row o2.row (by decide)) e2
  · by_cases e : j = i
    · subst e
      simp only [updT, if_true]
      exact n2
    · simp only [updT, if_neg e]
      have hR := h.two j hj
      refine ⟨away hR.blk (by decide) (by decide), hR.row.chg c (fun e2 => ?_)⟩
      rcases e2 with e2 | e2
      · exact (bk_ne hR.row o1.row (by decide)) e2
      · exact (h.ne j i hj hi e).2 e2
end
theorem fits_any (n : Int) (w : World) : Calls Tryd.prog 7 #[.int .i64 n] w fun e w' => e = .returned (.bool (decide (0 ≤ n) && decide (n ≤ 65536))) ∧ w' = w := by
  by_cases h1 : 0 ≤ n
  · by_cases h2 : n ≤ 65536
    · have d1 : decide (n ≥ 0) = true := decide_eq_true h1
      have d2 : decide (n ≤ 65536) = true := decide_eq_true h2
      have d3 : decide (0 ≤ n) = true := decide_eq_true h1
      go_enter Tryd.func7, Tryd.ntmps7
      go_wp2
      go_ret
      exact ⟨by first | rfl | (rw [d2, d3]; rfl), rfl⟩
    · have d1 : decide (n ≥ 0) = true := decide_eq_true h1
      have d2 : decide (n ≤ 65536) = false := decide_eq_false h2
      have d3 : decide (0 ≤ n) = true := decide_eq_true h1
      go_enter Tryd.func7, Tryd.ntmps7
      go_wp2
      go_ret
      exact ⟨by first | rfl | (rw [d2, d3]; rfl), rfl⟩
  · have d1 : decide (n ≥ 0) = false := decide_eq_false h1
    have d3 : decide (0 ≤ n) = false := decide_eq_false h1
    go_enter Tryd.func7, Tryd.ntmps7
    go_wp2
    go_ret
    exact ⟨by first | rfl | (rw [d3]; rfl), rfl⟩
end Go.Proofs.YtjnjpjpgokdciaaDoor
