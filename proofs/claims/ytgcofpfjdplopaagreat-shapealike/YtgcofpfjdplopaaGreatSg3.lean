/- Contracts of the program's meetings as they are widened. -/
import Derived.Test.YtgcofpfjdplopaaGreatSg2
namespace Go.Proofs.YtgcofpfjdplopaaGreat
section
open Go.RowKit Go.Sort

abbrev mtv (m : Mt) : Value := .agg #[.int .u8 m.1, .bool m.2.1, .int .i64 m.2.2.1.1, .int .i64 m.2.2.1.2, .int .i64 m.2.2.2.1, .int .i64 m.2.2.2.2]

def M6 (w : World) (b : Nat) (x0 x1 x2 x3 x4 x5 : Value) : Prop := w.heap[b]? = some (.cells #[x0, x1, x2, x3, x4, x5] 173 (0, 0))
section
variable {w w' : World} {b : Nat} {x0 x1 x2 x3 x4 x5 : Value}
theorem M6.lt (h : M6 w b x0 x1 x2 x3 x4 x5) : b < w.heap.size := lt_of_block h
theorem M6.c0 (h : M6 w b x0 x1 x2 x3 x4 x5) : w.cell? ⟨b, 0, none⟩ = some x0 := by unfold M6 at h; simp [World.cell?, h]
theorem M6.c1 (h : M6 w b x0 x1 x2 x3 x4 x5) : w.cell? ⟨b, 1, none⟩ = some x1 := by unfold M6 at h; simp [World.cell?, h]
theorem M6.c2 (h : M6 w b x0 x1 x2 x3 x4 x5) : w.cell? ⟨b, 2, none⟩ = some x2 := by unfold M6 at h; simp [World.cell?, h]
theorem M6.c3 (h : M6 w b x0 x1 x2 x3 x4 x5) : w.cell? ⟨b, 3, none⟩ = some x3 := by unfold M6 at h; simp [World.cell?, h]
theorem M6.c4 (h : M6 w b x0 x1 x2 x3 x4 x5) : w.cell? ⟨b, 4, none⟩ = some x4 := by unfold M6 at h; simp [World.cell?, h]
theorem M6.c5 (h : M6 w b x0 x1 x2 x3 x4 x5) : w.cell? ⟨b, 5, none⟩ = some x5 := by unfold M6 at h; simp [World.cell?, h]
theorem M6.f (h : M6 w b x0 x1 x2 x3 x4 x5) (o : Nat) : w.frozen? ⟨b, o, none⟩ = false := by unfold M6 at h; simp [World.frozen?, h]
theorem M6.at (h : M6 w b x0 x1 x2 x3 x4 x5) : w.heap[b]'(h.lt) = .cells #[x0, x1, x2, x3, x4, x5] 173 (0, 0) := by
  have hlt := h.lt
  unfold M6 at h; simpa [Array.getElem?_eq_getElem hlt] using h
theorem M6.s0 (h : M6 w b x0 x1 x2 x3 x4 x5) (z : Value) : M6 (w.setCell ⟨b, 0, none⟩ z) b z x1 x2 x3 x4 x5 := by
  have hlt := h.lt
  show (w.heap.modify b _)[b]? = _
  rw [Array.getElem?_eq_getElem (by simpa using hlt), Array.getElem_modify_self, h.at]; rfl
theorem M6.s1 (h : M6 w b x0 x1 x2 x3 x4 x5) (z : Value) : M6 (w.setCell ⟨b, 1, none⟩ z) b x0 z x2 x3 x4 x5 := by
  have hlt := h.lt
  show (w.heap.modify b _)[b]? = _
  rw [Array.getElem?_eq_getElem (by simpa using hlt), Array.getElem_modify_self, h.at]; rfl
theorem M6.s2 (h : M6 w b x0 x1 x2 x3 x4 x5) (z : Value) : M6 (w.setCell ⟨b, 2, none⟩ z) b x0 x1 z x3 x4 x5 := by
  have hlt := h.lt
  show (w.heap.modify b _)[b]? = _
  rw [Array.getElem?_eq_getElem (by simpa using hlt), Array.getElem_modify_self, h.at]; rfl
theorem M6.s3 (h : M6 w b x0 x1 x2 x3 x4 x5) (z : Value) : M6 (w.setCell ⟨b, 3, none⟩ z) b x0 x1 x2 z x4 x5 := by
  have hlt := h.lt
  show (w.heap.modify b _)[b]? = _
  rw [Array.getElem?_eq_getElem (by simpa using hlt), Array.getElem_modify_self, h.at]; rfl
theorem M6.s4 (h : M6 w b x0 x1 x2 x3 x4 x5) (z : Value) : M6 (w.setCell ⟨b, 4, none⟩ z) b x0 x1 x2 x3 z x5 := by
  have hlt := h.lt
  show (w.heap.modify b _)[b]? = _
  rw [Array.getElem?_eq_getElem (by simpa using hlt), Array.getElem_modify_self, h.at]; rfl
theorem M6.s5 (h : M6 w b x0 x1 x2 x3 x4 x5) (z : Value) : M6 (w.setCell ⟨b, 5, none⟩ z) b x0 x1 x2 x3 x4 z := by
  have hlt := h.lt
  show (w.heap.modify b _)[b]? = _
  rw [Array.getElem?_eq_getElem (by simpa using hlt), Array.getElem_modify_self, h.at]; rfl
theorem M6.mono {B : Nat} (h : M6 w b x0 x1 x2 x3 x4 x5) (g : Below B w w') (hb : b < B) : M6 w' b x0 x1 x2 x3 x4 x5 := by
  unfold M6; rw [g.block b hb]; exact h
theorem M6.other (h : M6 w b x0 x1 x2 x3 x4 x5) {p : Addr} (hp : b ≠ p.block) (z : Value) : M6 (w.setCell p z) b x0 x1 x2 x3 x4 x5 := by
  unfold M6; rw [Below.heap_setCell _ _ _ _ hp]; exact h
theorem M6.gr (h : M6 w b x0 x1 x2 x3 x4 x5) (g : Gr w w') : M6 w' b x0 x1 x2 x3 x4 x5 := h.mono g.below h.lt
end
theorem M6.new (w : World) (x0 x1 x2 x3 x4 x5 : Value) : M6 (w.alloc (.cells #[x0, x1, x2, x3, x4, x5] 173)) w.heap.size x0 x1 x2 x3 x4 x5 := heap_alloc_new w _
set_option maxHeartbeats 1000000 in
theorem widz_any (t : Fr) (w : World) : Calls Tryz.prog 141 #[mtv mt0, frv t] w fun e w' => e = .returned (mtv (oneM t)) ∧ Gr w w' := by
  obtain ⟨n, d⟩ := t
  show Calls Tryz.prog 141 #[.agg #[.int .u8 0, .bool false, .int .i64 0, .int .i64 0, .int .i64 0, .int .i64 0], .agg #[.int .i64 n, .int .i64 d]] w _
  go_enter Tryz.func141, Tryz.ntmps141
  go_wp2
  refine bodyPost_ret (v := mtv (oneM (n, d))) (by simp [results, Tryz.results141, go_sem, oneM]) rfl ⟨rfl, ?_⟩
  exact ((((Gr.refl _).alloc _).alloc _).alloc _).alloc _
set_option maxHeartbeats 1000000 in
theorem wids_any (t : Fr) (w : World) : Calls Tryz.prog 141 #[mtv (oneM t), frv t] w fun e w' => e = .returned (mtv (oneM t)) ∧ Gr w w' := by
  obtain ⟨n, d⟩ := t
  show Calls Tryz.prog 141 #[.agg #[.int .u8 1, .bool false, .int .i64 n, .int .i64 d, .int .i64 n, .int .i64 d], .agg #[.int .i64 n, .int .i64 d]] w _
  have e1 : (n == n) = true := by simp
  have e2 : (d == d) = true := by simp
  go_enter Tryz.func141, Tryz.ntmps141
  go_wp2
  refine bodyPost_ret (v := mtv (oneM (n, d))) (by simp [results, Tryz.results141, go_sem, oneM]) rfl ⟨rfl, ?_⟩
  exact ((((Gr.refl _).alloc _).alloc _).alloc _).alloc _
def TwoF (w : World) (b : Nat) (x0 x1 : Value) : Prop := w.heap[b]? = some (.cells #[x0, x1] 171 (0, 0))
section
variable {w w' : World} {b : Nat} {x0 x1 : Value}
theorem TwoF.lt (h : TwoF w b x0 x1) : b < w.heap.size := lt_of_block h
theorem TwoF.c0 (h : TwoF w b x0 x1) : w.cell? ⟨b, 0, none⟩ = some x0 := by unfold TwoF at h; simp [World.cell?, h]
theorem TwoF.c1 (h : TwoF w b x0 x1) : w.cell? ⟨b, 1, none⟩ = some x1 := by unfold TwoF at h; simp [World.cell?, h]
theorem TwoF.f (h : TwoF w b x0 x1) (o : Nat) : w.frozen? ⟨b, o, none⟩ = false := by unfold TwoF at h; simp [World.frozen?, h]
theorem TwoF.at (h : TwoF w b x0 x1) : w.heap[b]'(h.lt) = .cells #[x0, x1] 171 (0, 0) := by
  have hlt := h.lt
  unfold TwoF at h; simpa [Array.getElem?_eq_getElem hlt] using h
theorem TwoF.s0 (h : TwoF w b x0 x1) (z : Value) : TwoF (w.setCell ⟨b, 0, none⟩ z) b z x1 := by
  have hlt := h.lt
  show (w.heap.modify b _)[b]? = _
  rw [Array.getElem?_eq_getElem (by simpa using hlt), Array.getElem_modify_self, h.at]; rfl
theorem TwoF.s1 (h : TwoF w b x0 x1) (z : Value) : TwoF (w.setCell ⟨b, 1, none⟩ z) b x0 z := by
  have hlt := h.lt
  show (w.heap.modify b _)[b]? = _
  rw [Array.getElem?_eq_getElem (by simpa using hlt), Array.getElem_modify_self, h.at]; rfl
theorem TwoF.mono {B : Nat} (h : TwoF w b x0 x1) (g : Below B w w') (hb : b < B) : TwoF w' b x0 x1 := by
  unfold TwoF; rw [g.block b hb]; exact h
theorem TwoF.other (h : TwoF w b x0 x1) {p : Addr} (hp : b ≠ p.block) (z : Value) : TwoF (w.setCell p z) b x0 x1 := by
  unfold TwoF; rw [Below.heap_setCell _ _ _ _ hp]; exact h
theorem TwoF.gr (h : TwoF w b x0 x1) (g : Gr w w') : TwoF w' b x0 x1 := h.mono g.below h.lt
end
theorem TwoF.new (w : World) (x0 x1 : Value) : TwoF (w.alloc (.cells #[x0, x1] 171)) w.heap.size x0 x1 := heap_alloc_new w _
theorem TwoF.size_eq {w : World} {b b' : Nat} {x0 x1 : Value} (h : TwoF w b x0 x1) (e : b = b') : TwoF w b' x0 x1 := e ▸ h

set_option maxHeartbeats 2000000 in
theorem widt_any (f g t : Fr) (w : World) (hf : frOk f) (hg : frOk g) (ht : frOk t) : Calls Tryz.prog 141 #[mtv (2, false, f, g), frv t] w fun e w' => e = .returned (mtv (2, false, (if ltF t f then t else f), (if ltF g t then t else g))) ∧ Gr w w' := by
  have L1 : Hid (∀ w, Calls Tryz.prog 151 #[frv t, frv f] w fun e w' => e = .returned (.bool (ltF t f)) ∧ Gr w w') := fun w => fless_any t f w ht hf
  have L2 : Hid (∀ w, Calls Tryz.prog 151 #[frv g, frv t] w fun e w' => e = .returned (.bool (ltF g t)) ∧ Gr w w') := fun w => fless_any g t w hg ht
  generalize ltF t f = B1 at *
  generalize ltF g t = B2 at *
  obtain ⟨tn, td⟩ := t
  obtain ⟨fn, fd⟩ := f
  obtain ⟨gn, gd⟩ := g
  clear ht hf hg
  show Calls Tryz.prog 141 #[.agg #[.int .u8 2, .bool false, .int .i64 fn, .int .i64 fd, .int .i64 gn, .int .i64 gd], .agg #[.int .i64 tn, .int .i64 td]] w _
  go_enter Tryz.func141, Tryz.ntmps141
  go_wp2_with fail
  have hm : M6 ((((w.alloc (.cells #[.int .u8 2, .bool false, .int .i64 fn, .int .i64 fd, .int .i64 gn, .int .i64 gd] 173)).alloc (.cells #[.int .i64 tn, .int .i64 td] 171)).alloc (.cells #[.int .u8 0, .bool false, .int .i64 0, .int .i64 0, .int .i64 0, .int .i64 0] 173)).alloc (.cells #[.int .u8 1, .bool false, .int .i64 tn, .int .i64 td, .int .i64 tn, .int .i64 td] 173)) w.heap.size (.int .u8 2) (.bool false) (.int .i64 fn) (.int .i64 fd) (.int .i64 gn) (.int .i64 gd) := (M6.new w _ _ _ _ _ _).gr ((((Gr.refl _).alloc _).alloc _).alloc _)
  have ht : TwoF ((((w.alloc (.cells #[.int .u8 2, .bool false, .int .i64 fn, .int .i64 fd, .int .i64 gn, .int .i64 gd] 173)).alloc (.cells #[.int .i64 tn, .int .i64 td] 171)).alloc (.cells #[.int .u8 0, .bool false, .int .i64 0, .int .i64 0, .int .i64 0, .int .i64 0] 173)).alloc (.cells #[.int .u8 1, .bool false, .int .i64 tn, .int .i64 td, .int .i64 tn, .int .i64 td] 173)) (w.heap.size + 1) (.int .i64 tn) (.int .i64 td) := ((TwoF.new (w.alloc (.cells #[.int .u8 2, .bool false, .int .i64 fn, .int .i64 fd, .int .i64 gn, .int .i64 gd] 173)) (.int .i64 tn) (.int .i64 td)).gr (((Gr.refl _).alloc _).alloc _)).size_eq (by simp)
  have hr : M6 ((((w.alloc (.cells #[.int .u8 2, .bool false, .int .i64 fn, .int .i64 fd, .int .i64 gn, .int .i64 gd] 173)).alloc (.cells #[.int .i64 tn, .int .i64 td] 171)).alloc (.cells #[.int .u8 0, .bool false, .int .i64 0, .int .i64 0, .int .i64 0, .int .i64 0] 173)).alloc (.cells #[.int .u8 1, .bool false, .int .i64 tn, .int .i64 td, .int .i64 tn, .int .i64 td] 173)) (w.heap.size + 1 + 1) (.int .u8 0) (.bool false) (.int .i64 0) (.int .i64 0) (.int .i64 0) (.int .i64 0) := by
    have := (M6.new ((w.alloc (.cells #[.int .u8 2, .bool false, .int .i64 fn, .int .i64 fd, .int .i64 gn, .int .i64 gd] 173)).alloc (.cells #[.int .i64 tn, .int .i64 td] 171)) (.int .u8 0) (.bool false) (.int .i64 0) (.int .i64 0) (.int .i64 0) (.int .i64 0)).gr ((Gr.refl _).alloc (.cells #[.int .u8 1, .bool false, .int .i64 tn, .int .i64 td, .int .i64 tn, .int .i64 td] 173))
    simpa using this
  have hG : Gr w ((((w.alloc (.cells #[.int .u8 2, .bool false, .int .i64 fn, .int .i64 fd, .int .i64 gn, .int .i64 gd] 173)).alloc (.cells #[.int .i64 tn, .int .i64 td] 171)).alloc (.cells #[.int .u8 0, .bool false, .int .i64 0, .int .i64 0, .int .i64 0, .int .i64 0] 173)).alloc (.cells #[.int .u8 1, .bool false, .int .i64 tn, .int .i64 td, .int .i64 tn, .int .i64 td] 173)) := ((((Gr.refl _).alloc _).alloc _).alloc _).alloc _
  refine (L1.out _).mono ?_
  rintro e w1 ⟨rfl, q1⟩
  replace hm := hm.gr q1
  replace ht := ht.gr q1
  replace hr := hr.gr q1
  replace hG := hG.trans q1
  clear q1
  have m0 := hm.c0
  have m1 := hm.c1
  have m2 := hm.c2
  have m3 := hm.c3
  have m4 := hm.c4
  have m5 := hm.c5
  have mf := hm.f
  have t0 := ht.c0
  have t1 := ht.c1
  have r0 := hr.c0
  have r1 := hr.c1
  have r2 := hr.c2
  have r3 := hr.c3
  have r4 := hr.c4
  have r5 := hr.c5
  have rf := hr.f
  cases B1 with
  | true =>
    go_wp2_with fail
    clear m0 m1 m2 m3 m4 m5 mf t0 t1 r0 r1 r2 r3 r4 r5 rf
    replace hm := (hm.s2 (.int .i64 tn)).s3 (.int .i64 td)
    replace ht := (ht.other (p := ⟨w.heap.size, 2, none⟩) (by simp) (.int .i64 tn)).other (p := ⟨w.heap.size, 3, none⟩) (by simp) (.int .i64 td)
    replace hr := (hr.other (p := ⟨w.heap.size, 2, none⟩) (by simp only []; omega) (.int .i64 tn)).other (p := ⟨w.heap.size, 3, none⟩) (by simp only []; omega) (.int .i64 td)
    replace hG := (hG.setCell (p := ⟨w.heap.size, 2, none⟩) (by simp) (.int .i64 tn)).setCell (p := ⟨w.heap.size, 3, none⟩) (by simp) (.int .i64 td)
    refine (L2.out _).mono ?_
    rintro e w2 ⟨rfl, q2⟩
    replace hm := hm.gr q2
    replace ht := ht.gr q2
    replace hr := hr.gr q2
    replace hG := hG.trans q2
    clear q2
    have m0 := hm.c0
    have m1 := hm.c1
    have m2 := hm.c2
    have m3 := hm.c3
    have m4 := hm.c4
    have m5 := hm.c5
    have mf := hm.f
    have t0 := ht.c0
    have t1 := ht.c1
    have r0 := hr.c0
    have r1 := hr.c1
    have r2 := hr.c2
    have r3 := hr.c3
    have r4 := hr.c4
    have r5 := hr.c5
    have rf := hr.f
    cases B2 with
    | true =>
      go_wp2
      refine bodyPost_ret (v := mtv (2, false, (tn, td), (tn, td))) (by simp [results, Tryz.results141, go_sem, *]) rfl ⟨rfl, ?_⟩
      exact ((((((((hG.setCell (by simp only []; omega) _).setCell (by simp only []; omega) _).setCell (by simp only []; omega) _).setCell (by simp only []; omega) _).setCell (by simp only []; omega) _).setCell (by simp only []; omega) _).setCell (by simp only []; omega) _).setCell (by simp only []; omega) _)
    | false =>
      go_wp2
      refine bodyPost_ret (v := mtv (2, false, (tn, td), (gn, gd))) (by simp [results, Tryz.results141, go_sem, *]) rfl ⟨rfl, ?_⟩
      exact ((((((hG.setCell (by simp only []; omega) _).setCell (by simp only []; omega) _).setCell (by simp only []; omega) _).setCell (by simp only []; omega) _).setCell (by simp only []; omega) _).setCell (by simp only []; omega) _)
  | false =>
    go_wp2_with fail
    clear m0 m1 m2 m3 m4 m5 mf t0 t1 r0 r1 r2 r3 r4 r5 rf
    refine (L2.out _).mono ?_
    rintro e w2 ⟨rfl, q2⟩
    replace hm := hm.gr q2
    replace ht := ht.gr q2
    replace hr := hr.gr q2
    replace hG := hG.trans q2
    clear q2
    have m0 := hm.c0
    have m1 := hm.c1
    have m2 := hm.c2
    have m3 := hm.c3
    have m4 := hm.c4
    have m5 := hm.c5
    have mf := hm.f
    have t0 := ht.c0
    have t1 := ht.c1
    have r0 := hr.c0
    have r1 := hr.c1
    have r2 := hr.c2
    have r3 := hr.c3
    have r4 := hr.c4
    have r5 := hr.c5
    have rf := hr.f
    cases B2 with
    | true =>
      go_wp2
      refine bodyPost_ret (v := mtv (2, false, (fn, fd), (tn, td))) (by simp [results, Tryz.results141, go_sem, *]) rfl ⟨rfl, ?_⟩
      exact ((((((((hG.setCell (by simp only []; omega) _).setCell (by simp only []; omega) _).setCell (by simp only []; omega) _).setCell (by simp only []; omega) _).setCell (by simp only []; omega) _).setCell (by simp only []; omega) _).setCell (by simp only []; omega) _).setCell (by simp only []; omega) _)
    | false =>
      go_wp2
      refine bodyPost_ret (v := mtv (2, false, (fn, fd), (gn, gd))) (by simp [results, Tryz.results141, go_sem, *]) rfl ⟨rfl, ?_⟩
      exact ((((((hG.setCell (by simp only []; omega) _).setCell (by simp only []; omega) _).setCell (by simp only []; omega) _).setCell (by simp only []; omega) _).setCell (by simp only []; omega) _).setCell (by simp only []; omega) _)
set_option maxHeartbeats 2000000 in
theorem wido_any (f t : Fr) (w : World) (hf : frOk f) (ht : frOk t) (hne : f ≠ t) : Calls Tryz.prog 141 #[mtv (oneM f), frv t] w fun e w' => e = .returned (mtv (2, false, (if ltF t f then t else f), (if ltF f t then t else f))) ∧ Gr w w' := by
  have L1 : Hid (∀ w, Calls Tryz.prog 151 #[frv t, frv f] w fun e w' => e = .returned (.bool (ltF t f)) ∧ Gr w w') := fun w => fless_any t f w ht hf
  have L2 : Hid (∀ w, Calls Tryz.prog 151 #[frv f, frv t] w fun e w' => e = .returned (.bool (ltF f t)) ∧ Gr w w') := fun w => fless_any f t w hf ht
  generalize ltF t f = B1 at *
  generalize ltF f t = B2 at *
  obtain ⟨tn, td⟩ := t
  obtain ⟨fn, fd⟩ := f
  clear ht hf
  have hh : (fn == tn) = false ∨ ((fn == tn) = true ∧ (fd == td) = false) := by
    by_cases h : fn = tn
    · right; subst h; exact ⟨by simp, by simp; intro h; exact hne (by rw [h])⟩
    · left; simp [h]
  clear hne
  show Calls Tryz.prog 141 #[.agg #[.int .u8 1, .bool false, .int .i64 fn, .int .i64 fd, .int .i64 fn, .int .i64 fd], .agg #[.int .i64 tn, .int .i64 td]] w _
  rcases hh with h1 | ⟨h1, h2⟩
  · go_enter Tryz.func141, Tryz.ntmps141
    go_wp2_with fail
    have hm : M6 ((((w.alloc (.cells #[.int .u8 2, .bool false, .int .i64 fn, .int .i64 fd, .int .i64 fn, .int .i64 fd] 173)).alloc (.cells #[.int .i64 tn, .int .i64 td] 171)).alloc (.cells #[.int .u8 0, .bool false, .int .i64 0, .int .i64 0, .int .i64 0, .int .i64 0] 173)).alloc (.cells #[.int .u8 1, .bool false, .int .i64 tn, .int .i64 td, .int .i64 tn, .int .i64 td] 173)) w.heap.size (.int .u8 2) (.bool false) (.int .i64 fn) (.int .i64 fd) (.int .i64 fn) (.int .i64 fd) := (M6.new w _ _ _ _ _ _).gr ((((Gr.refl _).alloc _).alloc _).alloc _)
    have ht : TwoF ((((w.alloc (.cells #[.int .u8 2, .bool false, .int .i64 fn, .int .i64 fd, .int .i64 fn, .int .i64 fd] 173)).alloc (.cells #[.int .i64 tn, .int .i64 td] 171)).alloc (.cells #[.int .u8 0, .bool false, .int .i64 0, .int .i64 0, .int .i64 0, .int .i64 0] 173)).alloc (.cells #[.int .u8 1, .bool false, .int .i64 tn, .int .i64 td, .int .i64 tn, .int .i64 td] 173)) (w.heap.size + 1) (.int .i64 tn) (.int .i64 td) := ((TwoF.new (w.alloc (.cells #[.int .u8 2, .bool false, .int .i64 fn, .int .i64 fd, .int .i64 fn, .int .i64 fd] 173)) (.int .i64 tn) (.int .i64 td)).gr (((Gr.refl _).alloc _).alloc _)).size_eq (by simp)
    have hr : M6 ((((w.alloc (.cells #[.int .u8 2, .bool false, .int .i64 fn, .int .i64 fd, .int .i64 fn, .int .i64 fd] 173)).alloc (.cells #[.int .i64 tn, .int .i64 td] 171)).alloc (.cells #[.int .u8 0, .bool false, .int .i64 0, .int .i64 0, .int .i64 0, .int .i64 0] 173)).alloc (.cells #[.int .u8 1, .bool false, .int .i64 tn, .int .i64 td, .int .i64 tn, .int .i64 td] 173)) (w.heap.size + 1 + 1) (.int .u8 0) (.bool false) (.int .i64 0) (.int .i64 0) (.int .i64 0) (.int .i64 0) := by
      have := (M6.new ((w.alloc (.cells #[.int .u8 2, .bool false, .int .i64 fn, .int .i64 fd, .int .i64 fn, .int .i64 fd] 173)).alloc (.cells #[.int .i64 tn, .int .i64 td] 171)) (.int .u8 0) (.bool false) (.int .i64 0) (.int .i64 0) (.int .i64 0) (.int .i64 0)).gr ((Gr.refl _).alloc (.cells #[.int .u8 1, .bool false, .int .i64 tn, .int .i64 td, .int .i64 tn, .int .i64 td] 173))
      simpa using this
    have hG : Gr w ((((w.alloc (.cells #[.int .u8 2, .bool false, .int .i64 fn, .int .i64 fd, .int .i64 fn, .int .i64 fd] 173)).alloc (.cells #[.int .i64 tn, .int .i64 td] 171)).alloc (.cells #[.int .u8 0, .bool false, .int .i64 0, .int .i64 0, .int .i64 0, .int .i64 0] 173)).alloc (.cells #[.int .u8 1, .bool false, .int .i64 tn, .int .i64 td, .int .i64 tn, .int .i64 td] 173)) := ((((Gr.refl _).alloc _).alloc _).alloc _).alloc _
    refine (L1.out _).mono ?_
    rintro e w1 ⟨rfl, q1⟩
    replace hm := hm.gr q1
    replace ht := ht.gr q1
    replace hr := hr.gr q1
    replace hG := hG.trans q1
    clear q1
    have m0 := hm.c0
    have m1 := hm.c1
    have m2 := hm.c2
    have m3 := hm.c3
    have m4 := hm.c4
    have m5 := hm.c5
    have mf := hm.f
    have t0 := ht.c0
    have t1 := ht.c1
    have r0 := hr.c0
    have r1 := hr.c1
    have r2 := hr.c2
    have r3 := hr.c3
    have r4 := hr.c4
    have r5 := hr.c5
    have rf := hr.f
    cases B1 with
    | true =>
      go_wp2_with fail
      clear m0 m1 m2 m3 m4 m5 mf t0 t1 r0 r1 r2 r3 r4 r5 rf
      replace hm := (hm.s2 (.int .i64 tn)).s3 (.int .i64 td)
      replace ht := (ht.other (p := ⟨w.heap.size, 2, none⟩) (by simp) (.int .i64 tn)).other (p := ⟨w.heap.size, 3, none⟩) (by simp) (.int .i64 td)
      replace hr := (hr.other (p := ⟨w.heap.size, 2, none⟩) (by simp only []; omega) (.int .i64 tn)).other (p := ⟨w.heap.size, 3, none⟩) (by simp only []; omega) (.int .i64 td)
      replace hG := (hG.setCell (p := ⟨w.heap.size, 2, none⟩) (by simp) (.int .i64 tn)).setCell (p := ⟨w.heap.size, 3, none⟩) (by simp) (.int .i64 td)
      refine (L2.out _).mono ?_
      rintro e w2 ⟨rfl, q2⟩
      replace hm := hm.gr q2
      replace ht := ht.gr q2
      replace hr := hr.gr q2
      replace hG := hG.trans q2
      clear q2
      have m0 := hm.c0
      have m1 := hm.c1
      have m2 := hm.c2
      have m3 := hm.c3
      have m4 := hm.c4
      have m5 := hm.c5
      have mf := hm.f
      have t0 := ht.c0
      have t1 := ht.c1
      have r0 := hr.c0
      have r1 := hr.c1
      have r2 := hr.c2
      have r3 := hr.c3
      have r4 := hr.c4
      have r5 := hr.c5
      have rf := hr.f
      cases B2 with
      | true =>
        go_wp2
        refine bodyPost_ret (v := mtv (2, false, (tn, td), (tn, td))) (by simp [results, Tryz.results141, go_sem, *]) rfl ⟨rfl, ?_⟩
        exact ((((((((hG.setCell (by simp only []; omega) _).setCell (by simp only []; omega) _).setCell (by simp only []; omega) _).setCell (by simp only []; omega) _).setCell (by simp only []; omega) _).setCell (by simp only []; omega) _).setCell (by simp only []; omega) _).setCell (by simp only []; omega) _)
      | false =>
        go_wp2
        refine bodyPost_ret (v := mtv (2, false, (tn, td), (fn, fd))) (by simp [results, Tryz.results141, go_sem, *]) rfl ⟨rfl, ?_⟩
        exact ((((((hG.setCell (by simp only []; omega) _).setCell (by simp only []; omega) _).setCell (by simp only []; omega) _).setCell (by simp only []; omega) _).setCell (by simp only []; omega) _).setCell (by simp only []; omega) _)
    | false =>
      go_wp2_with fail
      clear m0 m1 m2 m3 m4 m5 mf t0 t1 r0 r1 r2 r3 r4 r5 rf
      refine (L2.out _).mono ?_
      rintro e w2 ⟨rfl, q2⟩
      replace hm := hm.gr q2
      replace ht := ht.gr q2
      replace hr := hr.gr q2
      replace hG := hG.trans q2
      clear q2
      have m0 := hm.c0
      have m1 := hm.c1
      have m2 := hm.c2
      have m3 := hm.c3
      have m4 := hm.c4
      have m5 := hm.c5
      have mf := hm.f
      have t0 := ht.c0
      have t1 := ht.c1
      have r0 := hr.c0
      have r1 := hr.c1
      have r2 := hr.c2
      have r3 := hr.c3
      have r4 := hr.c4
      have r5 := hr.c5
      have rf := hr.f
      cases B2 with
      | true =>
        go_wp2
        refine bodyPost_ret (v := mtv (2, false, (fn, fd), (tn, td))) (by simp [results, Tryz.results141, go_sem, *]) rfl ⟨rfl, ?_⟩
        exact ((((((((hG.setCell (by simp only []; omega) _).setCell (by simp only []; omega) _).setCell (by simp only []; omega) _).setCell (by simp only []; omega) _).setCell (by simp only []; omega) _).setCell (by simp only []; omega) _).setCell (by simp only []; omega) _).setCell (by simp only []; omega) _)
      | false =>
        go_wp2
        refine bodyPost_ret (v := mtv (2, false, (fn, fd), (fn, fd))) (by simp [results, Tryz.results141, go_sem, *]) rfl ⟨rfl, ?_⟩
        exact ((((((hG.setCell (by simp only []; omega) _).setCell (by simp only []; omega) _).setCell (by simp only []; omega) _).setCell (by simp only []; omega) _).setCell (by simp only []; omega) _).setCell (by simp only []; omega) _)
  · go_enter Tryz.func141, Tryz.ntmps141
    go_wp2_with fail
    have hm : M6 ((((w.alloc (.cells #[.int .u8 2, .bool false, .int .i64 fn, .int .i64 fd, .int .i64 fn, .int .i64 fd] 173)).alloc (.cells #[.int .i64 tn, .int .i64 td] 171)).alloc (.cells #[.int .u8 0, .bool false, .int .i64 0, .int .i64 0, .int .i64 0, .int .i64 0] 173)).alloc (.cells #[.int .u8 1, .bool false, .int .i64 tn, .int .i64 td, .int .i64 tn, .int .i64 td] 173)) w.heap.size (.int .u8 2) (.bool false) (.int .i64 fn) (.int .i64 fd) (.int .i64 fn) (.int .i64 fd) := (M6.new w _ _ _ _ _ _).gr ((((Gr.refl _).alloc _).alloc _).alloc _)
    have ht : TwoF ((((w.alloc (.cells #[.int .u8 2, .bool false, .int .i64 fn, .int .i64 fd, .int .i64 fn, .int .i64 fd] 173)).alloc (.cells #[.int .i64 tn, .int .i64 td] 171)).alloc (.cells #[.int .u8 0, .bool false, .int .i64 0, .int .i64 0, .int .i64 0, .int .i64 0] 173)).alloc (.cells #[.int .u8 1, .bool false, .int .i64 tn, .int .i64 td, .int .i64 tn, .int .i64 td] 173)) (w.heap.size + 1) (.int .i64 tn) (.int .i64 td) := ((TwoF.new (w.alloc (.cells #[.int .u8 2, .bool false, .int .i64 fn, .int .i64 fd, .int .i64 fn, .int .i64 fd] 173)) (.int .i64 tn) (.int .i64 td)).gr (((Gr.refl _).alloc _).alloc _)).size_eq (by simp)
    have hr : M6 ((((w.alloc (.cells #[.int .u8 2, .bool false, .int .i64 fn, .int .i64 fd, .int .i64 fn, .int .i64 fd] 173)).alloc (.cells #[.int .i64 tn, .int .i64 td] 171)).alloc (.cells #[.int .u8 0, .bool false, .int .i64 0, .int .i64 0, .int .i64 0, .int .i64 0] 173)).alloc (.cells #[.int .u8 1, .bool false, .int .i64 tn, .int .i64 td, .int .i64 tn, .int .i64 td] 173)) (w.heap.size + 1 + 1) (.int .u8 0) (.bool false) (.int .i64 0) (.int .i64 0) (.int .i64 0) (.int .i64 0) := by
      have := (M6.new ((w.alloc (.cells #[.int .u8 2, .bool false, .int .i64 fn, .int .i64 fd, .int .i64 fn, .int .i64 fd] 173)).alloc (.cells #[.int .i64 tn, .int .i64 td] 171)) (.int .u8 0) (.bool false) (.int .i64 0) (.int .i64 0) (.int .i64 0) (.int .i64 0)).gr ((Gr.refl _).alloc (.cells #[.int .u8 1, .bool false, .int .i64 tn, .int .i64 td, .int .i64 tn, .int .i64 td] 173))
      simpa using this
    have hG : Gr w ((((w.alloc (.cells #[.int .u8 2, .bool false, .int .i64 fn, .int .i64 fd, .int .i64 fn, .int .i64 fd] 173)).alloc (.cells #[.int .i64 tn, .int .i64 td] 171)).alloc (.cells #[.int .u8 0, .bool false, .int .i64 0, .int .i64 0, .int .i64 0, .int .i64 0] 173)).alloc (.cells #[.int .u8 1, .bool false, .int .i64 tn, .int .i64 td, .int .i64 tn, .int .i64 td] 173)) := ((((Gr.refl _).alloc _).alloc _).alloc _).alloc _
    refine (L1.out _).mono ?_
    rintro e w1 ⟨rfl, q1⟩
    replace hm := hm.gr q1
    replace ht := ht.gr q1
    replace hr := hr.gr q1
    replace hG := hG.trans q1
    clear q1
    have m0 := hm.c0
    have m1 := hm.c1
    have m2 := hm.c2
    have m3 := hm.c3
    have m4 := hm.c4
    have m5 := hm.c5
    have mf := hm.f
    have t0 := ht.c0
    have t1 := ht.c1
    have r0 := hr.c0
    have r1 := hr.c1
    have r2 := hr.c2
    have r3 := hr.c3
    have r4 := hr.c4
    have r5 := hr.c5
    have rf := hr.f
    cases B1 with
    | true =>
      go_wp2_with fail
      clear m0 m1 m2 m3 m4 m5 mf t0 t1 r0 r1 r2 r3 r4 r5 rf
      replace hm := (hm.s2 (.int .i64 tn)).s3 (.int .i64 td)
      replace ht := (ht.other (p := ⟨w.heap.size, 2, none⟩) (by simp) (.int .i64 tn)).other (p := ⟨w.heap.size, 3, none⟩) (by simp) (.int .i64 td)
      replace hr := (hr.other (p := ⟨w.heap.size, 2, none⟩) (by simp only []; omega) (.int .i64 tn)).other (p := ⟨w.heap.size, 3, none⟩) (by simp only []; omega) (.int .i64 td)
      replace hG := (hG.setCell (p := ⟨w.heap.size, 2, none⟩) (by simp) (.int .i64 tn)).setCell (p := ⟨w.heap.size, 3, none⟩) (by simp) (.int .i64 td)
      refine (L2.out _).mono ?_
      rintro e w2 ⟨rfl, q2⟩
      replace hm := hm.gr q2
      replace ht := ht.gr q2
      replace hr := hr.gr q2
      replace hG := hG.trans q2
      clear q2
      have m0 := hm.c0
      have m1 := hm.c1
      have m2 := hm.c2
      have m3 := hm.c3
      have m4 := hm.c4
      have m5 := hm.c5
      have mf := hm.f
      have t0 := ht.c0
      have t1 := ht.c1
      have r0 := hr.c0
      have r1 := hr.c1
      have r2 := hr.c2
      have r3 := hr.c3
      have r4 := hr.c4
      have r5 := hr.c5
      have rf := hr.f
      cases B2 with
      | true =>
        go_wp2
        refine bodyPost_ret (v := mtv (2, false, (tn, td), (tn, td))) (by simp [results, Tryz.results141, go_sem, *]) rfl ⟨rfl, ?_⟩
        exact ((((((((hG.setCell (by simp only []; omega) _).setCell (by simp only []; omega) _).setCell (by simp only []; omega) _).setCell (by simp only []; omega) _).setCell (by simp only []; omega) _).setCell (by simp only []; omega) _).setCell (by simp only []; omega) _).setCell (by simp only []; omega) _)
      | false =>
        go_wp2
        refine bodyPost_ret (v := mtv (2, false, (tn, td), (fn, fd))) (by simp [results, Tryz.results141, go_sem, *]) rfl ⟨rfl, ?_⟩
        exact ((((((hG.setCell (by simp only []; omega) _).setCell (by simp only []; omega) _).setCell (by simp only []; omega) _).setCell (by simp only []; omega) _).setCell (by simp only []; omega) _).setCell (by simp only []; omega) _)
    | false =>
      go_wp2_with fail
      clear m0 m1 m2 m3 m4 m5 mf t0 t1 r0 r1 r2 r3 r4 r5 rf
      refine (L2.out _).mono ?_
      rintro e w2 ⟨rfl, q2⟩
      replace hm := hm.gr q2
      replace ht := ht.gr q2
      replace hr := hr.gr q2
      replace hG := hG.trans q2
      clear q2
      have m0 := hm.c0
      have m1 := hm.c1
      have m2 := hm.c2
      have m3 := hm.c3
      have m4 := hm.c4
      have m5 := hm.c5
      have mf := hm.f
      have t0 := ht.c0
      have t1 := ht.c1
      have r0 := hr.c0
      have r1 := hr.c1
      have r2 := hr.c2
      have r3 := hr.c3
      have r4 := hr.c4
      have r5 := hr.c5
      have rf := hr.f
      cases B2 with
      | true =>
        go_wp2
        refine bodyPost_ret (v := mtv (2, false, (fn, fd), (tn, td))) (by simp [results, Tryz.results141, go_sem, *]) rfl ⟨rfl, ?_⟩
        exact ((((((((hG.setCell (by simp only []; omega) _).setCell (by simp only []; omega) _).setCell (by simp only []; omega) _).setCell (by simp only []; omega) _).setCell (by simp only []; omega) _).setCell (by simp only []; omega) _).setCell (by simp only []; omega) _).setCell (by simp only []; omega) _)
      | false =>
        go_wp2
        refine bodyPost_ret (v := mtv (2, false, (fn, fd), (fn, fd))) (by simp [results, Tryz.results141, go_sem, *]) rfl ⟨rfl, ?_⟩
        exact ((((((hG.setCell (by simp only []; omega) _).setCell (by simp only []; omega) _).setCell (by simp only []; omega) _).setCell (by simp only []; omega) _).setCell (by simp only []; omega) _).setCell (by simp only []; omega) _)
end
end Go.Proofs.YtgcofpfjdplopaaGreat
