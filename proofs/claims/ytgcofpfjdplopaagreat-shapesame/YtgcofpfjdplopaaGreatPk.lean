/- The law's own 'points': a list with marks behind it, in new memory. -/
import Derived.Test.YtgcofpfjdplopaaGreatBs
import Derived.IntWalk
set_option linter.unusedSimpArgs false
namespace Go.Proofs.YtgcofpfjdplopaaGreat
open Go.RowKit Go.Sort

theorem Tryz.info28 : (Tryz.prog.info? 28).map (fun i => (i.zero, i.size, i.bytes)) = some (some (.agg #[.int .i32 0, .int .i32 0]), 2, 8) := by kernel_rfl
theorem make_run (n : Nat) (h : n ≤ 17592186043911) (w : World) : (Instr.makeSlice 23 (.int .i64 (n : Int)) (.int .i64 (n : Int))).run Tryz.prog w = .ok (.slice (some ⟨w.heap.size, 0, none⟩) n n) (w.alloc (.cells (madeCells #[.int .i32 0, .int .i32 0] (n * 2)) 28)) := by
  obtain ⟨i, hi, hz0, hz1, hz2⟩ := info_parts Tryz.info28
  have := run_make (P := Tryz.prog) w 23 28 i (.agg #[.int .i32 0, .int .i32 0]) Tryz.underlying23 hi hz0 .i64 .i64 (n : Int) (n : Int) (by omega) (by omega) (by rw [hz2]; omega) (by omega)
  rw [hz1, Int.toNat_natCast] at this
  exact this
theorem some_at {cur : Array Value} {j n : Nat} (hs : cur.size = n * 2) (hj : j < n) : ∃ x y, cur[j * 2]? = some x ∧ cur[j * 2 + 1]? = some y :=
  ⟨_, _, Array.getElem?_eq_getElem (by omega), Array.getElem?_eq_getElem (by omega)⟩
def at7 (l : List (Int × Int)) (j : Nat) : Int × Int := (l ++ mk7 l.length).getD j (0, 0)
theorem at7_l {l : List (Int × Int)} {j : Nat} (h : j < l.length) : at7 l j = l.getD j (0, 0) := by unfold at7; simp [List.getD, List.getElem?_append_left h]
theorem at7_m {l : List (Int × Int)} {j : Nat} (h : ¬ j < l.length) (h7 : j < l.length + 7) : at7 l j = (555, IntKind.i32.wrap (j : Int)) := by
  unfold at7
  have e : j = l.length + (j - l.length) := by omega
  have h2 : j - l.length < 7 := by omega
  simp only [List.getD_eq_getElem?_getD]
  rw [List.getElem?_append_right (by omega)]
  simp [mk7, h2]
  congr 1
  omega
def upTo (l : List (Int × Int)) (cur : Array Value) (k : Nat) : Prop := ∀ j, j < k → cur[j * 2]? = some (.int .i32 (at7 l j).1) ∧ cur[j * 2 + 1]? = some (.int .i32 (at7 l j).2)
theorem upTo.put {l : List (Int × Int)} {cur : Array Value} {k : Nat} (h : upTo l cur k) (hs : k * 2 + 1 < cur.size) {x y : Int} (hx : at7 l k = (x, y)) : upTo l ((cur.setIfInBounds (k * 2) (.int .i32 x)).setIfInBounds (k * 2 + 1) (.int .i32 y)) (k + 1) := fun j hj => by
  by_cases e : j = k
  · subst e
    rw [hx]
    constructor
    · rw [Array.getElem?_setIfInBounds_ne (by omega)]
      simp [show j * 2 < cur.size from by omega]
    · simp [hs]
  · obtain ⟨a, b⟩ := h j (by omega)
    constructor
    · rw [Array.getElem?_setIfInBounds_ne (by omega), Array.getElem?_setIfInBounds_ne (by omega), a]
    · rw [Array.getElem?_setIfInBounds_ne (by omega), Array.getElem?_setIfInBounds_ne (by omega), b]
theorem upTo.keep {l : List (Int × Int)} {cur : Array Value} {k : Nat} (h : upTo l cur k) (x y : Value) : upTo l ((cur.setIfInBounds (k * 2) x).setIfInBounds (k * 2 + 1) y) k := fun j hj => by
  obtain ⟨a, b⟩ := h j hj
  constructor
  · rw [Array.getElem?_setIfInBounds_ne (by omega), Array.getElem?_setIfInBounds_ne (by omega), a]
  · rw [Array.getElem?_setIfInBounds_ne (by omega), Array.getElem?_setIfInBounds_ne (by omega), b]

set_option maxRecDepth 20000 in
set_option maxHeartbeats 4000000 in
theorem points_any (vo : Option Addr) (cv : Nat) (l : List (Int × Int)) (w : World) (hl : l.length ≤ 17592186043904) (hP : Pts w vo l) :
    Calls Tryz.prog 33 #[.slice vo l.length cv] w fun e w' => ∃ g, e = .returned (.slice (some ⟨g, 0, none⟩) l.length (l.length + 7)) ∧ Mkd w' g l ∧ w.heap.size ≤ g ∧ Below w.heap.size w w' := by
  have HP := hid' hP
  obtain ⟨N, hN⟩ : ∃ N, N = l.length + 7 := ⟨_, rfl⟩
  have MK := make_run N (by omega)
  rw [show (N : Int) = (l.length : Int) + 7 from by omega] at MK
  have hle : l.length ≤ N := by omega
  have hNb : N ≤ 17592186043911 := by omega
  replace hN := hid' hN
  have si := run_store_i .i32
  have kB : Hid (Bl (w.alloc (.cells (madeCells #[.int .i32 0, .int .i32 0] (N * 2)) 28)) w.heap.size 28 (madeCells #[.int .i32 0, .int .i32 0] (N * 2))) := Bl.new w 28 _
  have hs : Hid ((madeCells #[Value.int .i32 0, .int .i32 0] (N * 2)).size = N * 2) := size_madeCells _ _
  have g0 : Hid (Gr w (w.alloc (.cells (madeCells #[.int .i32 0, .int .i32 0] (N * 2)) 28))) := (Gr.refl w).alloc _
  clear hP
  go_enter Tryz.func33, Tryz.ntmps33
  go_upto_region 2 with fail
  generalize w.alloc (.cells (madeCells #[.int .i32 0, .int .i32 0] (N * 2)) 28) = w1 at *
  generalize madeCells #[Value.int .i32 0, .int .i32 0] (N * 2) = cur0 at *
  clear MK
  go_wp2
  go_loopw [4] (fun v4 wr => ∃ (k : Nat) (cur : Array Value), k ≤ N ∧ v4 = .int .i64 k ∧ Hid (Bl wr w.heap.size 28 cur) ∧ Hid (cur.size = N * 2) ∧ Hid (upTo l cur k) ∧ Hid (Gr w wr)) (fun v4 _ => N - (intOf v4).toNat)
  case atStart => exact ⟨0, cur0, by omega, rfl, kB, hs, (by intro j hj; omega), g0⟩
  case round =>
    clear kB hs g0
    obtain ⟨k, cur, hk, rfl, kB, hs, hU, hG⟩ := hrel
    by_cases hlt : k < N
    · obtain ⟨x0, y0, hx0, hy0⟩ := some_at hs.out hlt
      have p0 := kB.out.cell hx0
      have p1 := kB.out.cell hy0
      have f0 := kB.out.fro (k * 2)
      have f1 := kB.out.fro (k * 2 + 1)
      go_upto_region 6 with fail
      have kB2 := hid' ((kB.out.setAt (k * 2) (.int .i32 555)).setAt (k * 2 + 1) (.int .i32 (wrap32 (k : Int))))
      have hG2 := hid' ((hG.out.setCell (p := ⟨w.heap.size, k * 2, none⟩) (by simp only []; omega) (.int .i32 555)).setCell (p := ⟨w.heap.size, k * 2 + 1, none⟩) (by simp only []; omega) (.int .i32 (wrap32 (k : Int))))
      have hs2 : Hid (((cur.setIfInBounds (k * 2) (.int .i32 555)).setIfInBounds (k * 2 + 1) (.int .i32 (wrap32 (k : Int)))).size = N * 2) := by unfold Hid; rw [Array.size_setIfInBounds, Array.size_setIfInBounds]; exact hs.out
      by_cases hv : k < l.length
      · have hU2 := hid' (hU.out.keep (.int .i32 555) (.int .i32 (wrap32 (k : Int))))
        clear p0 p1 f0 f1 hx0 hy0 kB hG hU
        generalize (cur.setIfInBounds (k * 2) (Value.int .i32 555)).setIfInBounds (k * 2 + 1) (.int .i32 (wrap32 (k : Int))) = cu2 at *
        generalize (wr.setCell ⟨w.heap.size, k * 2, none⟩ (.int .i32 555)).setCell ⟨w.heap.size, k * 2 + 1, none⟩ (.int .i32 (wrap32 (k : Int))) = w2 at *
        obtain ⟨b, off, rfl, c0, c1⟩ := HP.out k hv
        replace c0 := below_cell c0 hG2.out.below
        replace c1 := below_cell c1 hG2.out.below
        obtain ⟨x0, y0, hx0, hy0⟩ := some_at hs2.out hlt
        have p0 := kB2.out.cell hx0
        have p1 := kB2.out.cell hy0
        have f0 := kB2.out.fro (k * 2)
        have f1 := kB2.out.fro (k * 2 + 1)
        have e := hid' (at7_l hv)
        obtain ⟨X, hX⟩ : ∃ X, X = (l.getD k (0, 0)).1 := ⟨_, rfl⟩
        obtain ⟨Y, hY⟩ : ∃ Y, Y = (l.getD k (0, 0)).2 := ⟨_, rfl⟩
        rw [← hX] at c0
        rw [← hY] at c1
        have HE : Hid (at7 l k = (X, Y)) := by unfold Hid; rw [e.out, hX, hY]
        clear hX hY e hx0 hy0
        go_wp2
        go_roundw
        case rel =>
          refine ⟨k + 1, _, by omega, by go_num, (kB2.out.setAt (k * 2) (.int .i32 X)).setAt (k * 2 + 1) (.int .i32 Y), ?_, hU2.out.put (by rw [hs2.out]; omega) HE.out, (hG2.out.setCell (by simp only []; omega) _).setCell (by simp only []; omega) _⟩
          unfold Hid; rw [Array.size_setIfInBounds, Array.size_setIfInBounds]; exact hs2.out
        case measure => simp [intOf]; omega
      · have HE : at7 l k = (555, wrap32 (k : Int)) := by rw [at7_m hv (by have := hN.out; omega), IntWalk.i32_left]
        have hU2 := hid' (hU.out.put (by rw [hs.out]; omega) HE)
        clear p0 p1 f0 f1 hx0 hy0 kB hG hU HE
        generalize (cur.setIfInBounds (k * 2) (Value.int .i32 555)).setIfInBounds (k * 2 + 1) (.int .i32 (wrap32 (k : Int))) = cu2 at *
        generalize (wr.setCell ⟨w.heap.size, k * 2, none⟩ (.int .i32 555)).setCell ⟨w.heap.size, k * 2 + 1, none⟩ (.int .i32 (wrap32 (k : Int))) = w2 at *
        go_wp2
        go_roundw
        case rel => exact ⟨k + 1, cu2, by omega, by go_num, kB2, hs2, hU2, hG2⟩
        case measure => simp [intOf]; omega
    · obtain rfl : k = N := by omega
      go_wp2
      go_ret
      have e := hN.out
      subst e
      refine ⟨_, rfl, ⟨cur, kB.out, hs.out, fun j hj => hU.out j hj⟩, Nat.le_refl _, hG.out.below⟩
end Go.Proofs.YtgcofpfjdplopaaGreat
