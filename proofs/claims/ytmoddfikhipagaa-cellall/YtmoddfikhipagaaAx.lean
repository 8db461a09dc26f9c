/- atEdge, where the edge is behind p and not beyond q. -/
import Derived.Test.YtmoddfikhipagaaAt
set_option linter.unusedSimpArgs false
namespace Go.Proofs.Ytmoddfikhipagaa
open Go.RowKit Go.Sort

theorem mul_bd {a b K : Int} (h1 : -K ≤ a) (h2 : a ≤ K) (h3 : 0 ≤ b) (h4 : b ≤ K) : -(K * K) ≤ a * b ∧ a * b ≤ K * K := by
  have hK : 0 ≤ K := by omega
  have e1 : a * b ≤ K * b := Int.mul_le_mul_of_nonneg_right h2 h3
  have e2 : K * b ≤ K * K := Int.mul_le_mul_of_nonneg_left h4 hK
  have e3 : (-K) * b ≤ a * b := Int.mul_le_mul_of_nonneg_right h1 h3
  have e4 : (-K) * b = -(K * b) := Int.neg_mul _ _
  constructor <;> omega
theorem quo_bd {r A lo hi : Int} (hA : 1 ≤ A) (h1 : lo * A ≤ r) (h2 : r < (hi + 1) * A) : lo ≤ r / A ∧ r / A ≤ hi := by
  refine ⟨(Int.le_ediv_iff_mul_le (by omega)).2 h1, ?_⟩
  have := (Int.ediv_lt_iff_lt_mul (show 0 < A by omega)).2 h2
  omega
/-- The row is within the heights of both ends. -/
theorem ris_bd {u t A : Int} (hA : 1 ≤ A) (ht : 1 ≤ t) (hT : t ≤ A) : (0 ≤ u → 0 ≤ u * t / A ∧ u * t / A ≤ u) ∧ (u ≤ 0 → u ≤ u * t / A ∧ u * t / A ≤ 0) ∧ (0 < u → 0 ≤ (u * t - 1) / A ∧ (u * t - 1) / A ≤ u) := by
  refine ⟨fun h => ?_, fun h => ?_, fun h => ?_⟩
  · have h1 : 0 ≤ u * t := Int.mul_nonneg h (by omega)
    have h2 : u * t ≤ u * A := Int.mul_le_mul_of_nonneg_left hT h
    exact quo_bd hA (by omega) (by rw [Int.add_mul]; omega)
  · have h1 : u * t ≤ 0 := Int.mul_nonpos_of_nonpos_of_nonneg h (by omega)
    have h2 : u * A ≤ u * t := Int.mul_le_mul_of_nonpos_left (a := u) h hT
    exact quo_bd hA (by omega) (by rw [Int.add_mul]; omega)
  · have h1 : 1 ≤ u * t := by
      have := Int.mul_le_mul_of_nonneg_left ht (show 0 ≤ u by omega)
      omega
    have h2 : u * t ≤ u * A := Int.mul_le_mul_of_nonneg_left hT (by omega)
    exact quo_bd hA (by omega) (by rw [Int.add_mul]; omega)
theorem le_mul_self {x s : Int} (hs : 1 ≤ s) : (0 ≤ x → x ≤ x * s) ∧ (x ≤ 0 → x * s ≤ x) := by
  refine ⟨fun h => ?_, fun h => ?_⟩
  · have := Int.mul_le_mul_of_nonneg_left hs h; omega
  · have := Int.mul_le_mul_of_nonpos_left (a := x) h hs; omega

set_option maxHeartbeats 1000000 in
theorem edge_any (p q : C2) (s x : Int) (hp : latP p) (hq : latP q) (hs : 1 ≤ s) (h1 : p.1 < x * s) (h2 : x * s ≤ q.1) (w : World) :
    Calls Try.prog 49 #[cv p, cv q, .int .i32 x, .int .i64 s] w fun e w' => e = .returned (.tuple #[cv (befP p q s x), cv (theP p q s x)]) ∧ Gr w w' := by
  obtain ⟨px, py⟩ := p
  obtain ⟨qx, qy⟩ := q
  unfold latP at hp hq
  dsimp only at *
  have hx := le_mul_self (x := x) hs
  have hxb : -1073741823 ≤ x ∧ x ≤ 1073741823 := by
    by_cases h : 0 ≤ x
    · have := hx.1 h; omega
    · have := hx.2 (by omega); omega
  have hb := mul_bd (a := qy - py) (b := x * s - px) (K := 2147483646) (by omega) (by omega) (by omega) (by omega)
  have hr := ris_bd (u := qy - py) (t := x * s - px) (A := qx - px) (by omega) (by omega) (by omega)
  have n1 : in32 (py + (qy - py) * (x * s - px) / (qx - px)) := by
    unfold in32
    by_cases h : 0 ≤ qy - py
    · have := hr.1 h; omega
    · have := hr.2.1 (by omega); omega
  have n2 : 0 < qy - py → in32 (py + ((qy - py) * (x * s - px) - 1) / (qx - px)) := fun h => by
    have := hr.2.2 h
    unfold in32
    omega
  refine (edge_raw px py qx qy x s (qx - px) (qy - py) ((qy - py) * (x * s - px)) (x * s) (rowP (px, py) (qx, qy) s (risP (px, py) (qx, qy) s x)) (rowP (px, py) (qx, qy) s (risP (px, py) (qx, qy) s x - 1)) (befP (px, py) (qx, qy) s x).2 w
    ?_ ?_ ?_ ?_ ?_ ?_ ?_ ?_ ?_ ?_ ?_ ?_ ?_ ?_ ?_)
  · intro h; unfold befP; simp only [if_pos h]
  · intro h; unfold befP; simp only [if_neg h]
  · exact w64_in (by unfold in64; omega)
  · exact w64_in (by unfold in64; omega)
  · exact w64_in (by unfold in64; omega)
  · exact w64_in (by unfold in64; omega)
  · exact w64_in (by unfold in64; omega)
  · exact w64_in (by unfold in64; omega)
  · exact w64_in (by unfold in64; omega)
  · exact w64_in (by unfold in64; omega)
  · rw [w64_in (x := x * s - px) (by unfold in64; omega)]
    exact w64_in (by unfold in64; omega)
  · exact w64_in (by unfold in64; omega)
  · exact w32_eq (by unfold in32; omega)
  · exact fun b1 b2 b3 w k1 k2 k3 => row_any b1 b2 b3 px py (qx - px) s _ (by omega) hs (by unfold in64; omega) (by unfold in32; omega) n1 w k1 k2 k3
  · exact fun h b1 b2 b3 w k1 k2 k3 => row_any b1 b2 b3 px py (qx - px) s _ (by omega) hs (by unfold in64; omega) (by unfold in32; omega) (n2 h) w k1 k2 k3

/-! ### byHeight -/
def byH (a b : C2) : C2 × C2 := if b.2 < a.2 then (b, a) else (a, b)
set_option maxRecDepth 20000 in
set_option maxHeartbeats 4000000 in
theorem by_raw (a1 a2 c1 c2 : Int) (l h : C2) (hl : c2 < a2 → l = (c1, c2) ∧ h = (a1, a2)) (hh : ¬ c2 < a2 → l = (a1, a2) ∧ h = (c1, c2)) (w : World) :
    Calls Try.prog 50 #[pt a1 a2, pt c1 c2] w fun e w' => e = .returned (.tuple #[cv l, cv h]) ∧ Gr w w' := by
  have H := hid0 (And.intro hl hh)
  clear hl hh
  have k2 := (((Bk.new w 26 [.int .i32 a1, .int .i32 a2]).alloc (.cells #[.int .i32 c1, .int .i32 c2] 26)).alloc (.cells #[.int .i32 0, .int .i32 0] 26)).alloc (.cells #[.int .i32 0, .int .i32 0] 26)
  have k3 := ((Bk.new (w.alloc (.cells #[.int .i32 a1, .int .i32 a2] 26)) 26 [.int .i32 c1, .int .i32 c2]).alloc (.cells #[.int .i32 0, .int .i32 0] 26)).alloc (.cells #[.int .i32 0, .int .i32 0] 26)
  have k4 := (Bk.new ((w.alloc (.cells #[.int .i32 a1, .int .i32 a2] 26)).alloc (.cells #[.int .i32 c1, .int .i32 c2] 26)) 26 [.int .i32 0, .int .i32 0]).alloc (.cells #[.int .i32 0, .int .i32 0] 26)
  have k5 := Bk.new (((w.alloc (.cells #[.int .i32 a1, .int .i32 a2] 26)).alloc (.cells #[.int .i32 c1, .int .i32 c2] 26)).alloc (.cells #[.int .i32 0, .int .i32 0] 26)) 26 [.int .i32 0, .int .i32 0]
  have gW : Gr w ((((w.alloc (.cells #[.int .i32 a1, .int .i32 a2] 26)).alloc (.cells #[.int .i32 c1, .int .i32 c2] 26)).alloc (.cells #[.int .i32 0, .int .i32 0] 26)).alloc (.cells #[.int .i32 0, .int .i32 0] 26)) := ((((Gr.refl _).alloc _).alloc _).alloc _).alloc _
  simp only [World.size_alloc] at k2 k3 k4 k5
  go_enter Try.func50, Try.ntmps50
  go_upto_region 1 with fail
  generalize (((w.alloc (.cells #[.int .i32 a1, .int .i32 a2] 26)).alloc (.cells #[.int .i32 c1, .int .i32 c2] 26)).alloc (.cells #[.int .i32 0, .int .i32 0] 26)).alloc (.cells #[.int .i32 0, .int .i32 0] 26) = W at *
  have h4 : w.heap.size ≤ w.heap.size + 1 + 1 := by omega
  have h5 : w.heap.size ≤ w.heap.size + 1 + 1 + 1 := by omega
  have n1 : w.heap.size + 1 + 1 ≠ w.heap.size + 1 + 1 + 1 := by omega
  have HG := hid0 (And.intro h4 h5)
  have n3 : w.heap.size ≠ w.heap.size + 1 + 1 := by omega
  have n4 : w.heap.size ≠ w.heap.size + 1 + 1 + 1 := by omega
  have n5 : w.heap.size + 1 ≠ w.heap.size + 1 + 1 := by omega
  have n6 : w.heap.size + 1 ≠ w.heap.size + 1 + 1 + 1 := by omega
  generalize w.heap.size + 1 + 1 + 1 = b5 at *
  generalize w.heap.size + 1 + 1 = b4 at *
  generalize w.heap.size + 1 = b3 at *
  obtain ⟨b2, hb2⟩ : ∃ b2, b2 = w.heap.size := ⟨_, rfl⟩
  rw [← hb2] at k2 n3 n4 ⊢
  have n7 := n3.symm
  have n8 := n4.symm
  have n9 := n5.symm
  have n10 := n6.symm
  clear hb2 h4 h5
  have n2 := n1.symm
  obtain ⟨x0, x1⟩ := k2.two
  obtain ⟨y0, y1⟩ := k3.two
  obtain ⟨u0, u1⟩ := k4.two
  obtain ⟨v0, v1⟩ := k5.two
  have z0 := k4.frozen 0
  have z1 := k4.frozen 1
  have z2 := k5.frozen 0
  have z3 := k5.frozen 1
  by_cases hlt : c2 < a2
  · obtain ⟨rfl, rfl⟩ := H.out.1 hlt
    clear H
    go_upto_region 2 with fail
    go_region
    have f4 : Bk ((((W.setCell ⟨b4, 0, none⟩ (.int .i32 c1)).setCell ⟨b4, 1, none⟩ (.int .i32 c2)).setCell ⟨b5, 0, none⟩ (.int .i32 a1)).setCell ⟨b5, 1, none⟩ (.int .i32 a2)).drew b4 26 [.int .i32 c1, .int .i32 c2] := (((k4.set 0 _).set 1 _).other (a := ⟨b5, 0, none⟩) n1 _).other (a := ⟨b5, 1, none⟩) n1 _
    have f5 : Bk ((((W.setCell ⟨b4, 0, none⟩ (.int .i32 c1)).setCell ⟨b4, 1, none⟩ (.int .i32 c2)).setCell ⟨b5, 0, none⟩ (.int .i32 a1)).setCell ⟨b5, 1, none⟩ (.int .i32 a2)).drew b5 26 [.int .i32 a1, .int .i32 a2] := (((k5.other (a := ⟨b4, 0, none⟩) n2 _).other (a := ⟨b4, 1, none⟩) n2 _).set 0 _).set 1 _
    have gF : Gr w ((((W.setCell ⟨b4, 0, none⟩ (.int .i32 c1)).setCell ⟨b4, 1, none⟩ (.int .i32 c2)).setCell ⟨b5, 0, none⟩ (.int .i32 a1)).setCell ⟨b5, 1, none⟩ (.int .i32 a2)).drew := ((((gW.setCell (p := ⟨b4, 0, none⟩) HG.out.1 (.int .i32 c1)).setCell (p := ⟨b4, 1, none⟩) HG.out.1 (.int .i32 c2)).setCell (p := ⟨b5, 0, none⟩) HG.out.2 (.int .i32 a1)).setCell (p := ⟨b5, 1, none⟩) HG.out.2 (.int .i32 a2)).drew
    clear u0 u1 v0 v1 z0 z1 z2 z3 x0 x1 y0 y1
    generalize ((((W.setCell ⟨b4, 0, none⟩ (.int .i32 c1)).setCell ⟨b4, 1, none⟩ (.int .i32 c2)).setCell ⟨b5, 0, none⟩ (.int .i32 a1)).setCell ⟨b5, 1, none⟩ (.int .i32 a2)).drew = W6 at *
    obtain ⟨a0, a1'⟩ := f4.two
    obtain ⟨a2', a3⟩ := f5.two
    go_wp2
    exact bodyPost_ret (v := .tuple #[pt c1 c2, pt a1 a2]) (by simp [results, Try.results50, go_sem, a0, a1', a2', a3]) rfl ⟨rfl, gF⟩
  · obtain ⟨rfl, rfl⟩ := H.out.2 hlt
    clear H
    go_upto_region 3 with fail
    go_region
    have f4 : Bk ((((W.setCell ⟨b4, 0, none⟩ (.int .i32 a1)).setCell ⟨b4, 1, none⟩ (.int .i32 a2)).setCell ⟨b5, 0, none⟩ (.int .i32 c1)).setCell ⟨b5, 1, none⟩ (.int .i32 c2)).drew b4 26 [.int .i32 a1, .int .i32 a2] := (((k4.set 0 _).set 1 _).other (a := ⟨b5, 0, none⟩) n1 _).other (a := ⟨b5, 1, none⟩) n1 _
    have f5 : Bk ((((W.setCell ⟨b4, 0, none⟩ (.int .i32 a1)).setCell ⟨b4, 1, none⟩ (.int .i32 a2)).setCell ⟨b5, 0, none⟩ (.int .i32 c1)).setCell ⟨b5, 1, none⟩ (.int .i32 c2)).drew b5 26 [.int .i32 c1, .int .i32 c2] := (((k5.other (a := ⟨b4, 0, none⟩) n2 _).other (a := ⟨b4, 1, none⟩) n2 _).set 0 _).set 1 _
    have gF : Gr w ((((W.setCell ⟨b4, 0, none⟩ (.int .i32 a1)).setCell ⟨b4, 1, none⟩ (.int .i32 a2)).setCell ⟨b5, 0, none⟩ (.int .i32 c1)).setCell ⟨b5, 1, none⟩ (.int .i32 c2)).drew := ((((gW.setCell (p := ⟨b4, 0, none⟩) HG.out.1 (.int .i32 a1)).setCell (p := ⟨b4, 1, none⟩) HG.out.1 (.int .i32 a2)).setCell (p := ⟨b5, 0, none⟩) HG.out.2 (.int .i32 c1)).setCell (p := ⟨b5, 1, none⟩) HG.out.2 (.int .i32 c2)).drew
    clear u0 u1 v0 v1 z0 z1 z2 z3 x0 x1 y0 y1
    generalize ((((W.setCell ⟨b4, 0, none⟩ (.int .i32 a1)).setCell ⟨b4, 1, none⟩ (.int .i32 a2)).setCell ⟨b5, 0, none⟩ (.int .i32 c1)).setCell ⟨b5, 1, none⟩ (.int .i32 c2)).drew = W6 at *
    obtain ⟨a0, a1'⟩ := f4.two
    obtain ⟨a2', a3⟩ := f5.two
    go_wp2
    exact bodyPost_ret (v := .tuple #[pt a1 a2, pt c1 c2]) (by simp [results, Try.results50, go_sem, a0, a1', a2', a3]) rfl ⟨rfl, gF⟩
theorem byHeight_any (a b : C2) (w : World) :
    Calls Try.prog 50 #[cv a, cv b] w fun e w' => e = .returned (.tuple #[cv (byH a b).1, cv (byH a b).2]) ∧ Gr w w' :=
  by_raw a.1 a.2 b.1 b.2 (byH a b).1 (byH a b).2 (fun h => by unfold byH; rw [if_pos h]; exact ⟨rfl, rfl⟩) (fun h => by unfold byH; rw [if_neg h]; exact ⟨rfl, rfl⟩) w
end Go.Proofs.Ytmoddfikhipagaa
