/- Points in memory, and the contract of the box around them: for every list of points what Bounds answers; the memory that was there is as it was. -/
import Derived.Test.YtpikhdfndnpidaaTm
import Derived.OwnWalk
namespace Go.Proofs.Ytpikhdfndnpidaa
open Go.RowKit Go.Sort

theorem Gr.cells {w w' : World} (h : Gr w w') : (∀ b o, b < w.heap.size → w'.cell? ⟨b, o, none⟩ = w.cell? ⟨b, o, none⟩) ∧ (∀ b o, b < w.heap.size → w'.frozen? ⟨b, o, none⟩ = w.frozen? ⟨b, o, none⟩) :=
  ⟨fun b o h' => h.below.cell (p := ⟨b, o, none⟩) h', fun b o h' => h.below.frozen (p := ⟨b, o, none⟩) h'⟩
/-! ### A block of four cells -/
def B4 (w : World) (b : Nat) (x0 x1 x2 x3 : Value) : Prop := w.heap[b]? = some (.cells #[x0, x1, x2, x3] 36 (0, 0))
section
variable {w w' : World} {b : Nat} {x0 x1 x2 x3 : Value}
theorem B4.lt (h : B4 w b x0 x1 x2 x3) : b < w.heap.size := lt_of_block h
theorem B4.c0 (h : B4 w b x0 x1 x2 x3) : w.cell? ⟨b, 0, none⟩ = some x0 := by unfold B4 at h; simp [World.cell?, h]
theorem B4.c1 (h : B4 w b x0 x1 x2 x3) : w.cell? ⟨b, 1, none⟩ = some x1 := by unfold B4 at h; simp [World.cell?, h]
theorem B4.c2 (h : B4 w b x0 x1 x2 x3) : w.cell? ⟨b, 2, none⟩ = some x2 := by unfold B4 at h; simp [World.cell?, h]
theorem B4.c3 (h : B4 w b x0 x1 x2 x3) : w.cell? ⟨b, 3, none⟩ = some x3 := by unfold B4 at h; simp [World.cell?, h]
theorem B4.f (h : B4 w b x0 x1 x2 x3) (o : Nat) : w.frozen? ⟨b, o, none⟩ = false := by unfold B4 at h; simp [World.frozen?, h]
theorem B4.at (h : B4 w b x0 x1 x2 x3) : w.heap[b]'(h.lt) = .cells #[x0, x1, x2, x3] 36 (0, 0) := by
  have hlt := h.lt
  unfold B4 at h; simpa [Array.getElem?_eq_getElem hlt] using h
theorem B4.s0 (h : B4 w b x0 x1 x2 x3) (z : Value) : B4 (w.setCell ⟨b, 0, none⟩ z) b z x1 x2 x3 := by
  have hlt := h.lt
  show (w.heap.modify b _)[b]? = _
  rw [Array.getElem?_eq_getElem (by simpa using hlt), Array.getElem_modify_self, h.at]; rfl
theorem B4.s1 (h : B4 w b x0 x1 x2 x3) (z : Value) : B4 (w.setCell ⟨b, 1, none⟩ z) b x0 z x2 x3 := by
  have hlt := h.lt
  show (w.heap.modify b _)[b]? = _
  rw [Array.getElem?_eq_getElem (by simpa using hlt), Array.getElem_modify_self, h.at]; rfl
theorem B4.s2 (h : B4 w b x0 x1 x2 x3) (z : Value) : B4 (w.setCell ⟨b, 2, none⟩ z) b x0 x1 z x3 := by
  have hlt := h.lt
  show (w.heap.modify b _)[b]? = _
  rw [Array.getElem?_eq_getElem (by simpa using hlt), Array.getElem_modify_self, h.at]; rfl
theorem B4.s3 (h : B4 w b x0 x1 x2 x3) (z : Value) : B4 (w.setCell ⟨b, 3, none⟩ z) b x0 x1 x2 z := by
  have hlt := h.lt
  show (w.heap.modify b _)[b]? = _
  rw [Array.getElem?_eq_getElem (by simpa using hlt), Array.getElem_modify_self, h.at]; rfl
theorem B4.mono {B : Nat} (h : B4 w b x0 x1 x2 x3) (g : Below B w w') (hb : b < B) : B4 w' b x0 x1 x2 x3 := by
  unfold B4; rw [g.block b hb]; exact h
theorem B4.other (h : B4 w b x0 x1 x2 x3) {p : Addr} (hp : b ≠ p.block) (z : Value) : B4 (w.setCell p z) b x0 x1 x2 x3 := by
  unfold B4; rw [Below.heap_setCell _ _ _ _ hp]; exact h
theorem B4.gr (h : B4 w b x0 x1 x2 x3) (g : Gr w w') : B4 w' b x0 x1 x2 x3 := h.mono g.below h.lt
end
theorem B4.new (w : World) (x0 x1 x2 x3 : Value) : B4 (w.alloc (.cells #[x0, x1, x2, x3] 36)) w.heap.size x0 x1 x2 x3 := heap_alloc_new w _

/-! ### Points in a slice -/
def Pts (w : World) (ao : Option Addr) (l : List (Int × Int)) : Prop := ∀ i, i < l.length → ∃ b off, ao = some ⟨b, off, none⟩ ∧
  w.cell? ⟨b, off + i * 2, none⟩ = some (.int .i32 (l.getD i (0, 0)).1) ∧ w.cell? ⟨b, off + i * 2 + 1, none⟩ = some (.int .i32 (l.getD i (0, 0)).2)
theorem Pts.mono {w w' : World} {ao : Option Addr} {l : List (Int × Int)} (h : Pts w ao l) (g : Below w.heap.size w w') : Pts w' ao l := fun i hi => by
  obtain ⟨b, off, e, h1, h2⟩ := h i hi
  exact ⟨b, off, e, below_cell h1 g, below_cell h2 g⟩

def bndS (q : Int × Int × Int × Int) (p : Int × Int) : Int × Int × Int × Int := (minI q.1 p.1, minI q.2.1 p.2, maxI q.2.2.1 p.1, maxI q.2.2.2 p.2)
def bndL (l : List (Int × Int)) : Int × Int × Int × Int := (l.drop 1).foldl bndS ((l.getD 0 (0, 0)).1, (l.getD 0 (0, 0)).2, (l.getD 0 (0, 0)).1, (l.getD 0 (0, 0)).2)
theorem bndL_take (l : List (Int × Int)) (k : Nat) (h : k + 1 < l.length) : bndL (l.take (k + 1 + 1)) = bndS (bndL (l.take (k + 1))) (l.getD (k + 1) (0, 0)) := by
  cases l with
  | nil => simp at h
  | cons p r =>
    simp only [List.take_succ_cons, bndL, List.drop_succ_cons, List.drop_zero, List.getD_cons_zero, List.getD_cons_succ]
    rw [List.take_add_one, List.getElem?_eq_getElem (by simpa using h), List.foldl_append]
    simp only [List.length_cons] at h
    simp [List.getD, show k < r.length by omega]
abbrev bxv (q : Int × Int × Int × Int) : Value := bx q.1 q.2.1 q.2.2.1 q.2.2.2

set_option maxRecDepth 20000 in
set_option maxHeartbeats 3200000 in
theorem bounds_one (b off : Nat) (X0 Y0 : Int) (w : World) (p0 : w.cell? ⟨b, off, none⟩ = some (.int .i32 X0)) (p1 : w.cell? ⟨b, off + 1, none⟩ = some (.int .i32 Y0)) :
    Calls Try.prog 41 #[.slice (some ⟨b, off, none⟩) 1 1] w fun e w' => e = .returned (.tuple #[bx X0 Y0 X0 Y0, .bool true]) ∧ Gr w w' := by
  have q0 : ∀ o, (w.alloc o).cell? ⟨b, off, none⟩ = some (.int .i32 X0) := fun o => below_cell p0 ((Gr.refl _).alloc _).below
  have q1 : ∀ o, (w.alloc o).cell? ⟨b, off + 1, none⟩ = some (.int .i32 Y0) := fun o => below_cell p1 ((Gr.refl _).alloc _).below
  have r0 : ∀ o o', ((w.alloc o).alloc o').cell? ⟨b, off, none⟩ = some (.int .i32 X0) := fun o o' => below_cell p0 (((Gr.refl _).alloc _).alloc _).below
  have r1 : ∀ o o', ((w.alloc o).alloc o').cell? ⟨b, off + 1, none⟩ = some (.int .i32 Y0) := fun o o' => below_cell p1 (((Gr.refl _).alloc _).alloc _).below
  go_enter Try.func41, Try.ntmps41
  go_wp2
  go_region
  have hG : Gr w (((w.alloc (.cells #[.int .i32 0, .int .i32 0, .int .i32 0, .int .i32 0] 36)).alloc (.cells #[.int .i32 X0, .int .i32 Y0, .int .i32 X0, .int .i32 Y0] 36)).drew) := (((Gr.refl _).alloc _).alloc _).drew
  have k0 : B4 (((w.alloc (.cells #[.int .i32 0, .int .i32 0, .int .i32 0, .int .i32 0] 36)).alloc (.cells #[.int .i32 X0, .int .i32 Y0, .int .i32 X0, .int .i32 Y0] 36)).drew) w.heap.size (.int .i32 0) (.int .i32 0) (.int .i32 0) (.int .i32 0) := (B4.new w _ _ _ _).gr (((Gr.refl _).alloc _).drew)
  have k1 : B4 (((w.alloc (.cells #[.int .i32 0, .int .i32 0, .int .i32 0, .int .i32 0] 36)).alloc (.cells #[.int .i32 X0, .int .i32 Y0, .int .i32 X0, .int .i32 Y0] 36)).drew) (w.heap.size + 1) (.int .i32 X0) (.int .i32 Y0) (.int .i32 X0) (.int .i32 Y0) := by
    have h := (B4.new (w.alloc (.cells #[.int .i32 0, .int .i32 0, .int .i32 0, .int .i32 0] 36)) (.int .i32 X0) (.int .i32 Y0) (.int .i32 X0) (.int .i32 Y0)).gr (Gr.refl _).drew
    simpa using h
  generalize ((w.alloc (.cells #[.int .i32 0, .int .i32 0, .int .i32 0, .int .i32 0] 36)).alloc (.cells #[.int .i32 X0, .int .i32 Y0, .int .i32 X0, .int .i32 Y0] 36)).drew = W at *
  clear p0 p1 q0 q1 r0 r1
  go_wp2
  go_loopw [21] (fun i wr => i = .int .i64 0 ∧ wr = W) (fun _ _ => 0)
  case atStart => exact ⟨rfl, rfl⟩
  case round =>
    obtain ⟨rfl, rfl⟩ := hrel
    have y0 := k1.c0
    have y1 := k1.c1
    have y2 := k1.c2
    have y3 := k1.c3
    have z0 := k0.f 0
    have z1 := k0.f 1
    have z2 := k0.f 2
    have z3 := k0.f 3
    have u0 := k0.c0
    have u1 := k0.c1
    have u2 := k0.c2
    have u3 := k0.c3
    have t0 := (k0.s0 (.int .i32 X0)).c0
    have t1 := ((k0.s0 (.int .i32 X0)).s1 (.int .i32 Y0)).c1
    have t2 := (((k0.s0 (.int .i32 X0)).s1 (.int .i32 Y0)).s2 (.int .i32 X0)).c2
    have t3 := ((((k0.s0 (.int .i32 X0)).s1 (.int .i32 Y0)).s2 (.int .i32 X0)).s3 (.int .i32 Y0)).c3
    clear k0 k1
    go_wp2
    refine bodyPost_ret (v := .tuple #[bx X0 Y0 X0 Y0, .bool true]) (by simp [results, Try.results41, go_sem, t0, t1, t2, t3]) rfl ⟨rfl, ?_⟩
    exact (((hG.setCell (by simp) _).setCell (by simp) _).setCell (by simp) _).setCell (by simp) _

set_option maxRecDepth 20000 in
set_option maxHeartbeats 3200000 in
theorem bounds_more (b off cap : Nat) (l : List (Int × Int)) (w : World) (h0 : 0 < l.length) (hl : l.length ≤ 281474976710656) (hcap : l.length ≤ cap) (hc : ¬ cap = 1) (hP : Pts w (some ⟨b, off, none⟩) l) :
    Calls Try.prog 41 #[.slice (some ⟨b, off, none⟩) l.length cap] w fun e w' => e = .returned (.tuple #[bxv (bndL l), .bool true]) ∧ Gr w w' := by
  have HP : Hid (Pts w (some ⟨b, off, none⟩) l) := hP
  have hne : ((l.length : Int) == 0) = false := by rw [beq_eq_false_iff_ne]; omega
  obtain ⟨b', off', e, p0, p1⟩ := hP 0 h0
  simp only [Option.some.injEq, Addr.mk.injEq] at e
  obtain ⟨rfl, rfl, _⟩ := e
  simp only [Nat.zero_mul, Nat.add_zero] at p0 p1
  clear hP
  have q0 : ∀ o, (w.alloc o).cell? ⟨b, off, none⟩ = some (.int .i32 (l.getD 0 (0, 0)).1) := fun o => below_cell p0 ((Gr.refl _).alloc _).below
  have q1 : ∀ o, (w.alloc o).cell? ⟨b, off + 1, none⟩ = some (.int .i32 (l.getD 0 (0, 0)).2) := fun o => below_cell p1 ((Gr.refl _).alloc _).below
  have r0 : ∀ o o', ((w.alloc o).alloc o').cell? ⟨b, off, none⟩ = some (.int .i32 (l.getD 0 (0, 0)).1) := fun o o' => below_cell p0 (((Gr.refl _).alloc _).alloc _).below
  have r1 : ∀ o o', ((w.alloc o).alloc o').cell? ⟨b, off + 1, none⟩ = some (.int .i32 (l.getD 0 (0, 0)).2) := fun o o' => below_cell p1 (((Gr.refl _).alloc _).alloc _).below
  have HB0 : Hid (bndL (l.take 1) = ((l.getD 0 (0, 0)).1, (l.getD 0 (0, 0)).2, (l.getD 0 (0, 0)).1, (l.getD 0 (0, 0)).2)) := by
    unfold Hid
    cases l with
    | nil => simp at h0
    | cons p r => rfl
  generalize (l.getD 0 (0, 0)).1 = X0 at *
  generalize (l.getD 0 (0, 0)).2 = Y0 at *
  go_enter Try.func41, Try.ntmps41
  go_wp2
  go_region
  have hG : Gr w (((w.alloc (.cells #[.int .i32 0, .int .i32 0, .int .i32 0, .int .i32 0] 36)).alloc (.cells #[.int .i32 X0, .int .i32 Y0, .int .i32 X0, .int .i32 Y0] 36)).drew) := (((Gr.refl _).alloc _).alloc _).drew
  have k0 : B4 (((w.alloc (.cells #[.int .i32 0, .int .i32 0, .int .i32 0, .int .i32 0] 36)).alloc (.cells #[.int .i32 X0, .int .i32 Y0, .int .i32 X0, .int .i32 Y0] 36)).drew) w.heap.size (.int .i32 0) (.int .i32 0) (.int .i32 0) (.int .i32 0) := (B4.new w _ _ _ _).gr (((Gr.refl _).alloc _).drew)
  have k1 : B4 (((w.alloc (.cells #[.int .i32 0, .int .i32 0, .int .i32 0, .int .i32 0] 36)).alloc (.cells #[.int .i32 X0, .int .i32 Y0, .int .i32 X0, .int .i32 Y0] 36)).drew) (w.heap.size + 1) (.int .i32 X0) (.int .i32 Y0) (.int .i32 X0) (.int .i32 Y0) := by
    have h := (B4.new (w.alloc (.cells #[.int .i32 0, .int .i32 0, .int .i32 0, .int .i32 0] 36)) (.int .i32 X0) (.int .i32 Y0) (.int .i32 X0) (.int .i32 Y0)).gr (Gr.refl _).drew
    simpa using h
  generalize ((w.alloc (.cells #[.int .i32 0, .int .i32 0, .int .i32 0, .int .i32 0] 36)).alloc (.cells #[.int .i32 X0, .int .i32 Y0, .int .i32 X0, .int .i32 Y0] 36)).drew = W at *
  clear p0 p1 q0 q1 r0 r1
  go_wp2
  go_loopw [21] (fun i wr => ∃ k : Nat, k + 1 ≤ l.length ∧ i = .int .i64 k ∧ Gr w wr ∧ B4 wr w.heap.size (.int .i32 0) (.int .i32 0) (.int .i32 0) (.int .i32 0) ∧
    B4 wr (w.heap.size + 1) (.int .i32 (bndL (l.take (k + 1))).1) (.int .i32 (bndL (l.take (k + 1))).2.1) (.int .i32 (bndL (l.take (k + 1))).2.2.1) (.int .i32 (bndL (l.take (k + 1))).2.2.2)) (fun i _ => l.length - (intOf i).toNat)
  case atStart => exact ⟨0, by omega, rfl, hG, k0, by rw [HB0.out]; exact k1⟩
  case round =>
    clear hG k0 k1 HB0
    obtain ⟨k, hk, rfl, hG, k0, k1⟩ := hrel
    have hrel_lt := k1.lt
    by_cases hlt : k + 1 < l.length
    · obtain ⟨b', off', e, p0, p1⟩ := HP.out (k + 1) hlt
      simp only [Option.some.injEq, Addr.mk.injEq] at e
      obtain ⟨rfl, rfl, _⟩ := e
      replace p0 := below_cell p0 hG.below
      replace p1 := below_cell p1 hG.below
      have HS : Hid (bndL (l.take (k + 1 + 1)) = bndS (bndL (l.take (k + 1))) (l.getD (k + 1) (0, 0))) := bndL_take l k hlt
      unfold bndS at HS
      generalize (l.getD (k + 1) (0, 0)).1 = X at *
      generalize (l.getD (k + 1) (0, 0)).2 = Y at *
      generalize (bndL (l.take (k + 1))).1 = m0 at *
      generalize (bndL (l.take (k + 1))).2.1 = m1 at *
      generalize (bndL (l.take (k + 1))).2.2.1 = m2 at *
      generalize (bndL (l.take (k + 1))).2.2.2 = m3 at *
      have hlt' : k < l.length - 1 := by omega
      have p0' : wr.cell? ⟨b, off + 2 + k * 2, none⟩ = some (.int .i32 X) := by rw [← p0]; congr 2; omega
      have p1' : wr.cell? ⟨b, off + 2 + k * 2 + 1, none⟩ = some (.int .i32 Y) := by rw [← p1]; congr 2; omega
      clear p0 p1
      go_upto_region 7 with fail
      have g1 : Gr wr (wr.alloc (.cells #[.int .i32 X, .int .i32 Y] 34)) := (Gr.refl _).alloc _
      have x0 : (wr.alloc (.cells #[.int .i32 X, .int .i32 Y] 34)).cell? ⟨wr.heap.size, 0, none⟩ = some (.int .i32 X) := by go_simp
      have x1 : (wr.alloc (.cells #[.int .i32 X, .int .i32 Y] 34)).cell? ⟨wr.heap.size, 1, none⟩ = some (.int .i32 Y) := by go_simp
      replace k0 := k0.gr g1
      replace k1 := k1.gr g1
      have hlt2 := k1.lt
      replace hG := hG.trans g1
      generalize wr.alloc (.cells #[.int .i32 X, .int .i32 Y] 34) = W1 at *
      have y0 := k1.c0
      have y1 := k1.c1
      go_wp2_with fail
      refine (lower_any m0 m1 X Y _).mono ?_
      rintro e W2 ⟨rfl, g2⟩
      replace k0 := k0.gr g2
      replace k1 := k1.gr g2
      replace x0 := below_cell x0 g2.below
      replace x1 := below_cell x1 g2.below
      replace y0 := k1.c0
      replace y1 := k1.c1
      have z0 := k1.f 0
      have z1 := k1.f 1
      replace hG := hG.trans g2
      go_upto_region 8 with fail
      replace k1 := (k1.s0 (.int .i32 (minI m0 X))).s1 (.int .i32 (minI m1 Y))
      replace k0 : B4 ((W2.setCell ⟨w.heap.size + 1, 0, none⟩ (.int .i32 (minI m0 X))).setCell ⟨w.heap.size + 1, 1, none⟩ (.int .i32 (minI m1 Y))) w.heap.size (.int .i32 0) (.int .i32 0) (.int .i32 0) (.int .i32 0) := (k0.other (by simp) _).other (by simp) _
      replace hG := (hG.setCell (p := ⟨w.heap.size + 1, 0, none⟩) (by simp) (.int .i32 (minI m0 X))).setCell (p := ⟨w.heap.size + 1, 1, none⟩) (by simp) (.int .i32 (minI m1 Y))
      replace x0 : ((W2.setCell ⟨w.heap.size + 1, 0, none⟩ (.int .i32 (minI m0 X))).setCell ⟨w.heap.size + 1, 1, none⟩ (.int .i32 (minI m1 Y))).cell? ⟨wr.heap.size, 0, none⟩ = some (.int .i32 X) := by
        rw [World.cell?_setCell_far _ _ _ _ (by simp only []; omega), World.cell?_setCell_far _ _ _ _ (by simp only []; omega)]; exact x0
      replace x1 : ((W2.setCell ⟨w.heap.size + 1, 0, none⟩ (.int .i32 (minI m0 X))).setCell ⟨w.heap.size + 1, 1, none⟩ (.int .i32 (minI m1 Y))).cell? ⟨wr.heap.size, 1, none⟩ = some (.int .i32 Y) := by
        rw [World.cell?_setCell_far _ _ _ _ (by simp only []; omega), World.cell?_setCell_far _ _ _ _ (by simp only []; omega)]; exact x1
      clear y0 y1 z0 z1 g1 g2
      generalize (W2.setCell ⟨w.heap.size + 1, 0, none⟩ (.int .i32 (minI m0 X))).setCell ⟨w.heap.size + 1, 1, none⟩ (.int .i32 (minI m1 Y)) = W3 at *
      have y0 := k1.c2
      have y1 := k1.c3
      go_wp2_with fail
      refine (upper_any m2 m3 X Y _).mono ?_
      rintro e W4 ⟨rfl, g2⟩
      replace k0 := k0.gr g2
      replace k1 := k1.gr g2
      clear x0 x1
      replace y0 := k1.c2
      replace y1 := k1.c3
      have z0 := k1.f 2
      have z1 := k1.f 3
      replace hG := hG.trans g2
      go_wp2
      go_roundw
      case rel => exact ⟨k + 1, by omega, by go_num, (hG.setCell (by simp) _).setCell (by simp) _, (k0.other (by simp) _).other (by simp) _, by rw [HS.out]; exact (k1.s2 _).s3 _⟩
      case measure => simp [intOf]; omega
    · have hkn : k + 1 = l.length := by omega
      have hkn' : ¬ k < l.length - 1 := by omega
      rw [hkn, List.take_length] at k1
      have y0 := k1.c0
      have y1 := k1.c1
      have y2 := k1.c2
      have y3 := k1.c3
      have z0 := k0.f 0
      have z1 := k0.f 1
      have z2 := k0.f 2
      have z3 := k0.f 3
      have u0 := k0.c0
      have u1 := k0.c1
      have u2 := k0.c2
      have u3 := k0.c3
      have t0 := (k0.s0 (.int .i32 (bndL l).1)).c0
      have t1 := ((k0.s0 (.int .i32 (bndL l).1)).s1 (.int .i32 (bndL l).2.1)).c1
      have t2 := (((k0.s0 (.int .i32 (bndL l).1)).s1 (.int .i32 (bndL l).2.1)).s2 (.int .i32 (bndL l).2.2.1)).c2
      have t3 := ((((k0.s0 (.int .i32 (bndL l).1)).s1 (.int .i32 (bndL l).2.1)).s2 (.int .i32 (bndL l).2.2.1)).s3 (.int .i32 (bndL l).2.2.2)).c3
      clear k0 k1
      go_wp2
      refine bodyPost_ret (v := .tuple #[bxv (bndL l), .bool true]) (by simp [results, Try.results41, go_sem, t0, t1, t2, t3]) rfl ⟨rfl, ?_⟩
      exact (((hG.setCell (by simp) _).setCell (by simp) _).setCell (by simp) _).setCell (by simp) _

theorem bounds_any (b off cap : Nat) (l : List (Int × Int)) (w : World) (h0 : 0 < l.length) (hl : l.length ≤ 281474976710656) (hcap : l.length ≤ cap) (hP : Pts w (some ⟨b, off, none⟩) l) :
    Calls Try.prog 41 #[.slice (some ⟨b, off, none⟩) l.length cap] w fun e w' => e = .returned (.tuple #[bxv (bndL l), .bool true]) ∧ Gr w w' := by
  by_cases hc : cap = 1
  · subst hc
    obtain ⟨b', off', e, p0, p1⟩ := hP 0 h0
    simp only [Option.some.injEq, Addr.mk.injEq] at e
    obtain ⟨rfl, rfl, _⟩ := e
    simp only [Nat.zero_mul, Nat.add_zero] at p0 p1
    have h1 : l.length = 1 := by omega
    obtain ⟨p, rfl⟩ := List.length_eq_one_iff.mp h1
    exact bounds_one b off p.1 p.2 w p0 p1
  · exact bounds_more b off cap l w h0 hl hcap hc hP
def boxOf (ax ay bx by_ : Int) : Q4 := (minI ax bx, minI ay by_, maxI ax bx, maxI ay by_)
theorem bounds_two (W : World) (ax ay bx by_ : Int) (x : Nat) (c0 : W.cell? ⟨x, 0, none⟩ = some (.int .i32 ax)) (c1 : W.cell? ⟨x, 1, none⟩ = some (.int .i32 ay)) (c2 : W.cell? ⟨x, 2, none⟩ = some (.int .i32 bx)) (c3 : W.cell? ⟨x, 3, none⟩ = some (.int .i32 by_)) :
    Calls Try.prog 41 #[.slice (some ⟨x, 0, none⟩) 2 2] W fun e w' => e = .returned (.tuple #[bv (boxOf ax ay bx by_), .bool true]) ∧ Gr W w' :=
  bounds_any x 0 2 [(ax, ay), (bx, by_)] W (by simp) (by simp) (by simp) (fun i hi => by
    simp only [List.length_cons, List.length_nil] at hi
    have : i = 0 ∨ i = 1 := by omega
    rcases this with rfl | rfl
    · exact ⟨_, _, rfl, c0, c1⟩
    · exact ⟨_, _, rfl, c2, c3⟩)
end Go.Proofs.Ytpikhdfndnpidaa
