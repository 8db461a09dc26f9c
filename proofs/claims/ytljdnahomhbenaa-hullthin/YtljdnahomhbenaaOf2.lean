/- The reference's Off: how far a point is off a segment, a fraction. -/
import Derived.Test.YtljdnahomhbenaaRw
namespace Go.Proofs.Ytljdnahomhbenaa
section
set_option linter.unusedSimpArgs false
set_option linter.unusedVariables false
open Go.RowKit Go.Sort
attribute [local go_sem] Oper.semAt_some wide_fn
attribute [local simp] wide_fn

set_option maxRecDepth 20000 in
def InvO3 (K : Nat) (W : World) (b3 b4 b5 b6 b7 b8 : Nat) (a b p : Int × Int) (r1 : Bool) (o1 : Option Addr) (l1 c1 : Nat) (u0 u1 u2 u3 u4 u5 u6 u7 u8 u9 u10 u11 u12 u13 u14 u15 u16 u17 u18 u19 u20 u21 u26 u27 u28 u29 u30 u31 u32 u33 u34 u35 u36 u37 u38 u39 u40 u41 u42 u43 u44 u45 : Value) (d : Nat → Prop) (act : Act) (w : World) : Prop :=
  ∃ u22 u23 u24 u25 : Value, act = { tmps := (u0 :: u1 :: u2 :: u3 :: u4 :: u5 :: u6 :: u7 :: u8 :: u9 :: u10 :: u11 :: u12 :: u13 :: u14 :: u15 :: u16 :: u17 :: u18 :: u19 :: u20 :: u21 :: u22 :: u23 :: u24 :: u25 :: u26 :: u27 :: u28 :: u29 :: u30 :: u31 :: u32 :: u33 :: u34 :: u35 :: u36 :: u37 :: u38 :: u39 :: u40 :: u41 :: u42 :: u43 :: u44 :: u45 :: []).toArray, defers := [] } ∧ Below K W w
  ∧ Hid (Hs w b3 28 #[.int .i32 a.1, .int .i32 a.2])
  ∧ Hid (Hs w b4 28 #[.int .i32 b.1, .int .i32 b.2])
  ∧ Hid (Hs w b5 28 #[.int .i32 p.1, .int .i32 p.2])
  ∧ Hid (Bk w b8 (.bool r1) (.slice o1 l1 c1))
  ∧ Hid (Nm w (.agg #[.bool r1, .slice o1 l1 c1]) 1)
  ∧ Hid (∃ x y, Bk w b6 x y ∧ (d 4 → Nm w (.agg #[x, y]) (d2 a p)))
  ∧ Hid (∃ x y, Bk w b7 x y ∧ (d 5 → Nm w (.agg #[x, y]) (1)))
  ∧ Hid (d 0 → u22 = pt a.1 a.2)
  ∧ Hid (d 1 → u23 = pt p.1 p.2)
  ∧ Hid (d 2 → Nm w u24 (d2 a p))
  ∧ Hid (d 3 → u25 = .agg #[.bool r1, .slice o1 l1 c1])
set_option maxRecDepth 20000 in
def InvO5 (K : Nat) (W : World) (b3 b4 b5 b6 b7 b8 : Nat) (a b p : Int × Int) (r1 : Bool) (o1 : Option Addr) (l1 c1 : Nat) (u0 u1 u2 u3 u4 u5 u6 u7 u8 u9 u10 u11 u12 u13 u14 u15 u16 u17 u18 u19 u20 u21 u22 u23 u24 u25 u26 u27 u28 u29 u30 u31 u36 u37 u38 u39 u40 u41 u42 u43 u44 u45 : Value) (d : Nat → Prop) (act : Act) (w : World) : Prop :=
  ∃ u32 u33 u34 u35 : Value, act = { tmps := (u0 :: u1 :: u2 :: u3 :: u4 :: u5 :: u6 :: u7 :: u8 :: u9 :: u10 :: u11 :: u12 :: u13 :: u14 :: u15 :: u16 :: u17 :: u18 :: u19 :: u20 :: u21 :: u22 :: u23 :: u24 :: u25 :: u26 :: u27 :: u28 :: u29 :: u30 :: u31 :: u32 :: u33 :: u34 :: u35 :: u36 :: u37 :: u38 :: u39 :: u40 :: u41 :: u42 :: u43 :: u44 :: u45 :: []).toArray, defers := [] } ∧ Below K W w
  ∧ Hid (Hs w b3 28 #[.int .i32 a.1, .int .i32 a.2])
  ∧ Hid (Hs w b4 28 #[.int .i32 b.1, .int .i32 b.2])
  ∧ Hid (Hs w b5 28 #[.int .i32 p.1, .int .i32 p.2])
  ∧ Hid (Bk w b8 (.bool r1) (.slice o1 l1 c1))
  ∧ Hid (Nm w (.agg #[.bool r1, .slice o1 l1 c1]) 1)
  ∧ Hid (∃ x y, Bk w b6 x y ∧ (d 4 → Nm w (.agg #[x, y]) (d2 b p)))
  ∧ Hid (∃ x y, Bk w b7 x y ∧ (d 5 → Nm w (.agg #[x, y]) (1)))
  ∧ Hid (d 0 → u32 = pt b.1 b.2)
  ∧ Hid (d 1 → u33 = pt p.1 p.2)
  ∧ Hid (d 2 → Nm w u34 (d2 b p))
  ∧ Hid (d 3 → u35 = .agg #[.bool r1, .slice o1 l1 c1])
set_option maxRecDepth 20000 in
def InvO7 (K : Nat) (W : World) (b3 b4 b5 b6 b7 b9 : Nat) (a b p : Int × Int) (r9 : Bool) (o9 : Option Addr) (l9 c9 : Nat) (u0 u1 u2 u3 u4 u5 u6 u7 u8 u9 u10 u11 u12 u13 u14 u15 u16 u17 u18 u19 u20 u21 u22 u23 u24 u25 u26 u27 u28 u29 u30 u31 u32 u33 u34 u35 u36 u37 u38 u39 : Value) (d : Nat → Prop) (act : Act) (w : World) : Prop :=
  ∃ u40 u41 u42 u43 u44 u45 : Value, act = { tmps := (u0 :: u1 :: u2 :: u3 :: u4 :: u5 :: u6 :: u7 :: u8 :: u9 :: u10 :: u11 :: u12 :: u13 :: u14 :: u15 :: u16 :: u17 :: u18 :: u19 :: u20 :: u21 :: u22 :: u23 :: u24 :: u25 :: u26 :: u27 :: u28 :: u29 :: u30 :: u31 :: u32 :: u33 :: u34 :: u35 :: u36 :: u37 :: u38 :: u39 :: u40 :: u41 :: u42 :: u43 :: u44 :: u45 :: []).toArray, defers := [] } ∧ Below K W w
  ∧ Hid (Hs w b3 28 #[.int .i32 a.1, .int .i32 a.2])
  ∧ Hid (Hs w b4 28 #[.int .i32 b.1, .int .i32 b.2])
  ∧ Hid (Hs w b5 28 #[.int .i32 p.1, .int .i32 p.2])
  ∧ Hid (Bk w b9 (.bool r9) (.slice o9 l9 c9))
  ∧ Hid (Nm w (.agg #[.bool r9, .slice o9 l9 c9]) (cr a b p))
  ∧ Hid (∃ x y, Bk w b6 x y ∧ (d 6 → Nm w (.agg #[x, y]) (cr a b p * cr a b p)))
  ∧ Hid (∃ x y, Bk w b7 x y ∧ (d 7 → Nm w (.agg #[x, y]) (d2 a b)))
  ∧ Hid (d 0 → u40 = .agg #[.bool r9, .slice o9 l9 c9])
  ∧ Hid (d 1 → u41 = .agg #[.bool r9, .slice o9 l9 c9])
  ∧ Hid (d 2 → Nm w u42 (cr a b p * cr a b p))
  ∧ Hid (d 3 → u43 = pt a.1 a.2)
  ∧ Hid (d 4 → u44 = pt b.1 b.2)
  ∧ Hid (d 5 → Nm w u45 (d2 a b))

theorem cmp_le (N : Int) : decide (cmpI N 0 ≤ 0) = decide (N ≤ 0) := by
  unfold cmpI
  repeat' split
  all_goals (simp only [decide_eq_decide]; omega)

theorem five_new (w : World) (a b p : Int × Int) : ∃ W, W = (((((w.alloc (.cells #[.int .i32 a.1, .int .i32 a.2] 28)).alloc (.cells #[.int .i32 b.1, .int .i32 b.2] 28)).alloc (.cells #[.int .i32 p.1, .int .i32 p.2] 28)).alloc (.cells #[.bool false, .slice none 0 0] 53)).alloc (.cells #[.bool false, .slice none 0 0] 53)) ∧ Hs W w.heap.size 28 #[.int .i32 a.1, .int .i32 a.2] ∧ Hs W (w.heap.size + 1) 28 #[.int .i32 b.1, .int .i32 b.2] ∧ Hs W (w.heap.size + 1 + 1) 28 #[.int .i32 p.1, .int .i32 p.2] ∧ Bk W (w.heap.size + 1 + 1 + 1) (.bool false) (.slice none 0 0) ∧ Bk W (w.heap.size + 1 + 1 + 1 + 1) (.bool false) (.slice none 0 0) ∧ Below w.heap.size w W ∧ W.heap.size = w.heap.size + 5 := by
  refine ⟨_, rfl, ?_, ?_, ?_, ?_, ?_, ?_, by simp⟩
  · exact ((((Hs.new w 28 _).gr ((Gr.refl _).alloc _)).gr ((Gr.refl _).alloc _)).gr ((Gr.refl _).alloc _)).gr ((Gr.refl _).alloc _)
  · have := ((((Hs.new (w.alloc (.cells #[.int .i32 a.1, .int .i32 a.2] 28)) 28 #[.int .i32 b.1, .int .i32 b.2]).gr ((Gr.refl _).alloc (.cells #[.int .i32 p.1, .int .i32 p.2] 28))).gr ((Gr.refl _).alloc (.cells #[.bool false, .slice none 0 0] 53))).gr ((Gr.refl _).alloc (.cells #[.bool false, .slice none 0 0] 53)))
    rw [World.size_alloc] at this
    exact this
  · have := ((Hs.new ((w.alloc (.cells #[.int .i32 a.1, .int .i32 a.2] 28)).alloc (.cells #[.int .i32 b.1, .int .i32 b.2] 28)) 28 #[.int .i32 p.1, .int .i32 p.2]).gr ((Gr.refl _).alloc (.cells #[.bool false, .slice none 0 0] 53))).gr ((Gr.refl _).alloc (.cells #[.bool false, .slice none 0 0] 53))
    rw [World.size_alloc, World.size_alloc] at this
    exact this
  · have := (Bk.new (((w.alloc (.cells #[.int .i32 a.1, .int .i32 a.2] 28)).alloc (.cells #[.int .i32 b.1, .int .i32 b.2] 28)).alloc (.cells #[.int .i32 p.1, .int .i32 p.2] 28)) (.bool false) (.slice none 0 0)).alloc (.cells #[.bool false, .slice none 0 0] 53)
    rw [World.size_alloc, World.size_alloc, World.size_alloc] at this
    exact this
  · have := Bk.new ((((w.alloc (.cells #[.int .i32 a.1, .int .i32 a.2] 28)).alloc (.cells #[.int .i32 b.1, .int .i32 b.2] 28)).alloc (.cells #[.int .i32 p.1, .int .i32 p.2] 28)).alloc (.cells #[.bool false, .slice none 0 0] 53)) (.bool false) (.slice none 0 0)
    rw [World.size_alloc, World.size_alloc, World.size_alloc, World.size_alloc] at this
    exact this
  · exact ((((((Gr.refl _).alloc _).alloc _).alloc _).alloc _).alloc _).below

set_option maxRecDepth 20000 in
set_option maxHeartbeats 16000000 in
theorem roff_any (a b p : Int × Int) (ha : latP a) (hb : latP b) (hp : latP p) (w : World) :
    Calls Try.prog 78 #[pt a.1 a.2, pt b.1 b.2, pt p.1 p.2] w fun e w' => ∃ x y, e = .returned (.tuple #[x, y]) ∧ Nm w' x (refF a b p).1 ∧ Nm w' y (refF a b p).2 ∧ Below w.heap.size w w' := by
  have la := hid0 ha
  have lb := hid0 hb
  have lp := hid0 hp
  have sC : Hid (small (cr a b p)) := by have := cr_bd ha hb hp; exact small_256 (by omega) (by omega)
  have O1 := hid0 (fun w => of_num 1 w (by omega) (by omega))
  have I1 := hid0 (fun w => rinner_lat a b p ha hb hp w)
  have I2 := hid0 (fun w => rinner_lat b a p hb ha hp w)
  have P1 := hid0 (fun w => rprod_lat a b p ha hb hp w)
  have X1 : Hid (a = b ∨ al a b p ≤ 0 → refF a b p = (d2 a p, 1)) := fun h => by unfold refF; rw [if_pos h]
  have X2 : Hid (¬ (a = b ∨ al a b p ≤ 0) → al b a p ≤ 0 → refF a b p = (d2 b p, 1)) := fun h h2 => by unfold refF; rw [if_neg h, if_pos h2]
  have X3 : Hid (¬ (a = b ∨ al a b p ≤ 0) → ¬ al b a p ≤ 0 → refF a b p = (cr a b p * cr a b p, d2 a b)) := fun h h2 => by unfold refF; rw [if_neg h, if_neg h2]
  clear ha hb hp
  obtain ⟨W0, hW0, h3, h4, h5, h6, h7, hb, hsz⟩ := five_new w a b p
  go_enter Try.func78, Try.ntmps78
  go_upto_region 1 with fail
  rw [← hW0]
  clear hW0
  obtain ⟨b3, e3⟩ : ∃ b3, b3 = w.heap.size := ⟨_, rfl⟩
  obtain ⟨b4, e4⟩ : ∃ b4, b4 = w.heap.size + 1 := ⟨_, rfl⟩
  obtain ⟨b5, e5⟩ : ∃ b5, b5 = w.heap.size + 1 + 1 := ⟨_, rfl⟩
  obtain ⟨b6, e6⟩ : ∃ b6, b6 = w.heap.size + 1 + 1 + 1 := ⟨_, rfl⟩
  obtain ⟨b7, e7⟩ : ∃ b7, b7 = w.heap.size + 1 + 1 + 1 + 1 := ⟨_, rfl⟩
  rw [← e7] at h7 ⊢
  rw [← e6] at h6 ⊢
  rw [← e5] at h5 ⊢
  rw [← e4] at h4 ⊢
  rw [← e3] at h3 ⊢
  have lt3 : b3 < b6 ∧ b4 < b6 ∧ b5 < b6 ∧ b6 < b7 ∧ w.heap.size ≤ b3 ∧ b7 < W0.heap.size := by omega
  clear e3 e4 e5 e6 e7 hsz
  replace h3 := hid0 h3
  replace h4 := hid0 h4
  replace h5 := hid0 h5
  replace h6 := hid0 h6
  replace h7 := hid0 h7
  go_upto_region 2 with (go_at_call 43; refine (O1.out _).mono ?_; rintro e w1 ⟨z1, rfl, hN, g1⟩; obtain ⟨r1, o1, l1, c1, rfl, hN'⟩ := hN.shape; clear O1)
  clear hN
  have h8 := hid0 (Bk.new w1 (.bool r1) (.slice o1 l1 c1))
  have gA := ((Gr.refl w1).alloc (.cells #[.bool r1, .slice o1 l1 c1] 53)).below
  have gB : Below W0.heap.size W0 (w1.alloc (.cells #[.bool r1, .slice o1 l1 c1] 53)) := g1.trans (gA.mono g1.size)
  have hN := hid0 (hN'.out.mono gA)
  have lt8 : b7 < w1.heap.size := by have := g1.size; omega
  replace h3 := hid0 (h3.out.bl gB)
  replace h4 := hid0 (h4.out.bl gB)
  replace h5 := hid0 (h5.out.bl gB)
  replace h6 := hid0 (h6.out.mono gB h6.out.lt)
  replace h7 := hid0 (h7.out.mono gB h7.out.lt)
  replace hb := hb.trans (gB.mono hb.size)
  obtain ⟨b8, e8⟩ : ∃ b8, b8 = w1.heap.size := ⟨_, rfl⟩
  rw [← e8] at h8 lt8 ⊢
  clear e8 g1 gA gB hN'
  generalize w1.alloc (.cells #[.bool r1, .slice o1 l1 c1] 53) = W1 at *
  obtain ⟨D1, hD1⟩ : ∃ D1 : Bool, D1 = decide (a = b ∨ al a b p ≤ 0) := ⟨_, rfl⟩
  replace hD1 := hid0 hD1
  go_cut [21] (fun v w' => v = .bool D1 ∧ Hid (Below W1.heap.size W1 w'))
  case first =>
    have z0 := h3.out.cell (i := 0) rfl
    have z1 := h3.out.cell (i := 1) rfl
    have y0 := h4.out.cell (i := 0) rfl
    have y1 := h4.out.cell (i := 1) rfl
    have x0 := h5.out.cell (i := 0) rfl
    have x1 := h5.out.cell (i := 1) rfl
    clear X1 X2 X3 I2 P1 sC
    by_cases h : a = b
    · rw [← h] at y0 y1
      have e1 : D1 = true := by rw [hD1.out, decide_eq_true (Or.inl h)]
      clear h I1 hD1
      go_wp2
      go_meet
      case rel => exact ⟨by rw [e1], Below.refl _ _⟩
    · have e1 : D1 = decide (al a b p ≤ 0) := by
        rw [hD1.out]
        by_cases h2 : al a b p ≤ 0 <;> simp [h, h2]
      rw [← cmp_le] at e1
      have e1 := hid0 e1
      generalize al a b p = N at *
      clear hD1
      by_cases hx : a.1 = b.1
      · have hy : (a.2 == b.2) = false := beq_eq_false_iff_ne.2 (fun e => h (Prod.ext hx e))
        rw [← hx] at y0
        replace I1 := I1.out
        rw [← hx] at I1
        replace I1 := hid0 I1
        clear hx h
        go_wp2_with (first
          | (go_at_call 106; refine (I1.out _).mono ?_; rintro e w2 ⟨z2, rfl, hz2, g2⟩; obtain ⟨r2, o2, l2, c2, rfl, hz2'⟩ := hz2.shape; clear I1 hz2)
          | (go_at_call 52; refine (sign_num _ N _ hz2'.out).mono ?_; rintro e w3 ⟨rfl, g3⟩))
        go_meet
        case rel => exact ⟨by rw [e1.out], g2.trans (g3.below.mono g2.size)⟩
      · have hx' : (a.1 == b.1) = false := beq_eq_false_iff_ne.2 hx
        clear hx h
        go_wp2_with (first
          | (go_at_call 106; refine (I1.out _).mono ?_; rintro e w2 ⟨z2, rfl, hz2, g2⟩; obtain ⟨r2, o2, l2, c2, rfl, hz2'⟩ := hz2.shape; clear I1 hz2)
          | (go_at_call 52; refine (sign_num _ N _ hz2'.out).mono ?_; rintro e w3 ⟨rfl, g3⟩))
        go_meet
        case rel => exact ⟨by rw [e1.out], g2.trans (g3.below.mono g2.size)⟩
  obtain ⟨rfl, hcut⟩ := hcut
  replace hcut := hcut.out
  replace h3 := hid0 (h3.out.bl hcut)
  replace h4 := hid0 (h4.out.bl hcut)
  replace h5 := hid0 (h5.out.bl hcut)
  replace h6 := hid0 (h6.out.mono hcut h6.out.lt)
  replace h7 := hid0 (h7.out.mono hcut h7.out.lt)
  replace h8 := hid0 (h8.out.mono hcut h8.out.lt)
  replace hN := hid0 (hN.out.mono hcut)
  replace hb := hb.trans (hcut.mono hb.size)
  clear hcut I1
  cases D1 with
  | true =>
    have eF := X1.out (of_decide_eq_true hD1.out.symm)
    clear X1 X2 X3 hD1 I2 P1 sC
    go_upto_region 3 with fail
    obtain ⟨nF, hnF⟩ : ∃ nF : Nat, 5 ≤ nF := ⟨5, by omega⟩
    have h1n : 1 ≤ nF := by omega
    refine (wpIn_wide (n := nF)).1 ?_
    refine region_inv (by kernel_rfl) (by kernel_rfl) (InvO3 w.heap.size w b3 b4 b5 b6 b7 b8 a b p r1 o1 l1 c1 (pt a.1 a.2) (pt b.1 b.2) (pt p.1 p.2) (.pointer (some ⟨b3, 0, none⟩)) (.pointer (some ⟨b4, 0, none⟩)) (.pointer (some ⟨b5, 0, none⟩)) (.pointer (some ⟨b6, 0, none⟩)) (.pointer (some ⟨b7, 0, none⟩)) (.pointer (some ⟨b8, 0, none⟩)) undef u10 u11 u12 u13 u14 u15 u16 u17 u18 u19 u20 (.bool true) u26 u27 u28 u29 u30 u31 u32 u33 u34 u35 u36 u37 u38 u39 u40 u41 u42 u43 u44 u45) ?h0 ?hstep ?hend
    case h0 =>
      exact ⟨_, _, _, _, rfl, hb.drew, h3.out, h4.out, h5.out, h8.out, hN.out.drew, ⟨_, _, h6.out, fun h => h.elim⟩, ⟨_, _, h7.out, fun h => h.elim⟩, fun h => h.elim, fun h => h.elim, fun h => h.elim, fun h => h.elim⟩
    case hstep =>
      intro d' a' wI i o ho hnd D hdn hI
      have hi := (List.getElem?_eq_some_iff.1 ho).1
      simp only [List.length_cons, List.length_nil] at hi
      have : i = 0 ∨ i = 1 ∨ i = 2 ∨ i = 3 ∨ i = 4 ∨ i = 5 := by omega
      clear hi
      rcases this with rfl | rfl | rfl | rfl | rfl | rfl
      · -- 0
        cases ho
        obtain ⟨u22, u23, u24, u25, rfl, hb', h3, h4, h5, h8, hN, g_b6, g_b7, f0, f1, f2, f3⟩ := hI
        have z0 := h3.out.cell (i := 0) rfl
        have z1 := h3.out.cell (i := 1) rfl
        gi_wp2
        exact ⟨_, _, _, _, rfl, hb', h3, h4, h5, h8, hN, (by obtain ⟨x, y, k, c⟩ := g_b6.out; exact ⟨x, y, k, fun h => c (or_ne h (by decide))⟩), (by obtain ⟨x, y, k, c⟩ := g_b7.out; exact ⟨x, y, k, fun h => c (or_ne h (by decide))⟩), (fun _ => rfl), (fun h => f1.out (or_ne h (by decide))), (fun h => f2.out (or_ne h (by decide))), (fun h => f3.out (or_ne h (by decide)))⟩
      · -- 1
        cases ho
        obtain ⟨u22, u23, u24, u25, rfl, hb', h3, h4, h5, h8, hN, g_b6, g_b7, f0, f1, f2, f3⟩ := hI
        have z0 := h5.out.cell (i := 0) rfl
        have z1 := h5.out.cell (i := 1) rfl
        gi_wp2
        exact ⟨_, _, _, _, rfl, hb', h3, h4, h5, h8, hN, (by obtain ⟨x, y, k, c⟩ := g_b6.out; exact ⟨x, y, k, fun h => c (or_ne h (by decide))⟩), (by obtain ⟨x, y, k, c⟩ := g_b7.out; exact ⟨x, y, k, fun h => c (or_ne h (by decide))⟩), (fun h => f0.out (or_ne h (by decide))), (fun _ => rfl), (fun h => f2.out (or_ne h (by decide))), (fun h => f3.out (or_ne h (by decide)))⟩
      · -- 2
        cases ho
        obtain ⟨u22, u23, u24, u25, rfl, hb', h3, h4, h5, h8, hN, g_b6, g_b7, f0, f1, f2, f3⟩ := hI
        have e0 := f0.out (D 0 (by kernel_rfl))
        subst e0
        have e1 := f1.out (D 1 (by kernel_rfl))
        subst e1
        gi_wp2_with (refine (callsIn_wide.2 (rsquare_lat a p la.out lp.out _)).mono ?_; rintro e w1 ⟨z, rfl, hz, h1⟩)
        exact ⟨_, _, _, _, rfl, (hb'.trans (h1.mono hb'.size)), (h3.out.bl h1), (h4.out.bl h1), (h5.out.bl h1), (h8.out.mono h1 h8.out.lt), (hN.out.mono h1), (by obtain ⟨x, y, k, c⟩ := g_b6.out; exact ⟨x, y, k.mono h1 k.lt, fun h => (c (or_ne h (by decide))).mono h1⟩), (by obtain ⟨x, y, k, c⟩ := g_b7.out; exact ⟨x, y, k.mono h1 k.lt, fun h => (c (or_ne h (by decide))).mono h1⟩), (fun _ => rfl), (fun _ => rfl), (fun _ => hz), (fun h => f3.out (or_ne h (by decide)))⟩
      · -- 3
        cases ho
        obtain ⟨u22, u23, u24, u25, rfl, hb', h3, h4, h5, h8, hN, g_b6, g_b7, f0, f1, f2, f3⟩ := hI
        have z0 := h8.out.c0
        have z1 := h8.out.c1
        gi_wp2
        exact ⟨_, _, _, _, rfl, hb', h3, h4, h5, h8, hN, (by obtain ⟨x, y, k, c⟩ := g_b6.out; exact ⟨x, y, k, fun h => c (or_ne h (by decide))⟩), (by obtain ⟨x, y, k, c⟩ := g_b7.out; exact ⟨x, y, k, fun h => c (or_ne h (by decide))⟩), (fun h => f0.out (or_ne h (by decide))), (fun h => f1.out (or_ne h (by decide))), (fun h => f2.out (or_ne h (by decide))), (fun _ => rfl)⟩
      · -- 4
        cases ho
        obtain ⟨u22, u23, u24, u25, rfl, hb', h3, h4, h5, h8, hN, g_b6, g_b7, f0, f1, f2, f3⟩ := hI
        have e2 := f2.out (D 2 (by kernel_rfl))
        obtain ⟨r2, o2, l2, c2, rfl, e2'⟩ := e2.shape
        clear e2
        obtain ⟨x, y, kM, cM⟩ := g_b6.out
        have q0 := kM.c0
        have q1 := kM.c1
        have q2 := kM.f0
        have q3 := kM.f1
        gi_wp2
        exact ⟨_, _, _, _, rfl, ((hb'.setCell (p := ⟨b6, 0, none⟩) (by simp only []; omega) (.bool r2)).setCell (p := ⟨b6, 1, none⟩) (by simp only []; omega) (.slice o2 l2 c2)), ((h3.out.other (p := ⟨b6, 0, none⟩) (show b3 ≠ b6 by omega) _).other (p := ⟨b6, 1, none⟩) (show b3 ≠ b6 by omega) _), ((h4.out.other (p := ⟨b6, 0, none⟩) (show b4 ≠ b6 by omega) _).other (p := ⟨b6, 1, none⟩) (show b4 ≠ b6 by omega) _), ((h5.out.other (p := ⟨b6, 0, none⟩) (show b5 ≠ b6 by omega) _).other (p := ⟨b6, 1, none⟩) (show b5 ≠ b6 by omega) _), ((h8.out.other (p := ⟨b6, 0, none⟩) (show b8 ≠ b6 by omega) _).other (p := ⟨b6, 1, none⟩) (show b8 ≠ b6 by omega) _), ((hN.out.setBk kM _).setBk (kM.set0 _) _), ⟨_, _, (kM.set0 _).set1 _, fun _ => ((e2'.out.setBk kM _).setBk (kM.set0 _) _)⟩, (by obtain ⟨x', y', k, c⟩ := g_b7.out; exact ⟨x', y', (k.other (p := ⟨b6, 0, none⟩) (show b7 ≠ b6 by omega) _).other (p := ⟨b6, 1, none⟩) (show b7 ≠ b6 by omega) _, fun h => (((c (or_ne h (by decide))).setBk kM _).setBk (kM.set0 _) _)⟩), (fun h => f0.out (or_ne h (by decide))), (fun h => f1.out (or_ne h (by decide))), (fun _ => ((e2'.out.setBk kM _).setBk (kM.set0 _) _)), (fun h => f3.out (or_ne h (by decide)))⟩
      · -- 5
        cases ho
        obtain ⟨u22, u23, u24, u25, rfl, hb', h3, h4, h5, h8, hN, g_b6, g_b7, f0, f1, f2, f3⟩ := hI
        have e3 := f3.out (D 3 (by kernel_rfl))
        subst e3
        obtain ⟨x, y, kM, cM⟩ := g_b7.out
        have q0 := kM.c0
        have q1 := kM.c1
        have q2 := kM.f0
        have q3 := kM.f1
        gi_wp2
        exact ⟨_, _, _, _, rfl, ((hb'.setCell (p := ⟨b7, 0, none⟩) (by simp only []; omega) (.bool r1)).setCell (p := ⟨b7, 1, none⟩) (by simp only []; omega) (.slice o1 l1 c1)), ((h3.out.other (p := ⟨b7, 0, none⟩) (show b3 ≠ b7 by omega) _).other (p := ⟨b7, 1, none⟩) (show b3 ≠ b7 by omega) _), ((h4.out.other (p := ⟨b7, 0, none⟩) (show b4 ≠ b7 by omega) _).other (p := ⟨b7, 1, none⟩) (show b4 ≠ b7 by omega) _), ((h5.out.other (p := ⟨b7, 0, none⟩) (show b5 ≠ b7 by omega) _).other (p := ⟨b7, 1, none⟩) (show b5 ≠ b7 by omega) _), ((h8.out.other (p := ⟨b7, 0, none⟩) (show b8 ≠ b7 by omega) _).other (p := ⟨b7, 1, none⟩) (show b8 ≠ b7 by omega) _), ((hN.out.setBk kM _).setBk (kM.set0 _) _), (by obtain ⟨x', y', k, c⟩ := g_b6.out; exact ⟨x', y', (k.other (p := ⟨b7, 0, none⟩) (show b6 ≠ b7 by omega) _).other (p := ⟨b7, 1, none⟩) (show b6 ≠ b7 by omega) _, fun h => (((c (or_ne h (by decide))).setBk kM _).setBk (kM.set0 _) _)⟩), ⟨_, _, (kM.set0 _).set1 _, fun _ => ((hN.out.setBk kM _).setBk (kM.set0 _) _)⟩, (fun h => f0.out (or_ne h (by decide))), (fun h => f1.out (or_ne h (by decide))), (fun h => (((f2.out (or_ne h (by decide))).setBk kM _).setBk (kM.set0 _) _)), (fun _ => rfl)⟩
    case hend =>
      intro d' a' w' hall hI
      obtain ⟨u22, u23, u24, u25, rfl, hb', h3, h4, h5, h8, hN, g_b6, g_b7, f0, f1, f2, f3⟩ := hI
      simp only [List.length_cons, List.length_nil] at hall
      obtain ⟨x_b6, y_b6, k_b6, c_b6⟩ := g_b6.out
      have m_b6 := c_b6 (hall 4 (by decide))
      obtain ⟨x_b7, y_b7, k_b7, c_b7⟩ := g_b7.out
      have m_b7 := c_b7 (hall 5 (by decide))
      have q0 := k_b6.c0
      have q1 := k_b6.c1
      have q2 := k_b7.c0
      have q3 := k_b7.c1
      obtain ⟨r, o, l, c, e, m'⟩ := m_b6.shape
      cases e
      obtain ⟨r', o', l', c', e, m''⟩ := m_b7.shape
      cases e
      clear hall f0 f1 f2 f3 g_b6 g_b7 c_b6 c_b7
      go_wp2
      refine bodyPost_ret (v := .tuple #[.agg #[.bool r, .slice o l c], .agg #[.bool r', .slice o' l' c']]) (by simp [results, Try.results78, go_sem, q0, q1, q2, q3]) rfl ⟨_, _, rfl, ?_, ?_, hb'⟩
      · rw [eF]; exact m'.out
      · rw [eF]; exact m''.out
  | false =>
    have hno := of_decide_eq_false hD1.out.symm
    replace X2 := hid0 (X2.out hno)
    replace X3 := hid0 (X3.out hno)
    clear X1 hno hD1
    obtain ⟨D2, hD2⟩ : ∃ D2 : Bool, D2 = decide (al b a p ≤ 0) := ⟨_, rfl⟩
    replace hD2 := hid0 hD2
    go_upto_region 4 with fail
    go_cut [31] (fun v w' => v = .bool D2 ∧ Hid (Below wc.heap.size wc w'))
    case first =>
      have z0 := h3.out.cell (i := 0) rfl
      have z1 := h3.out.cell (i := 1) rfl
      have y0 := h4.out.cell (i := 0) rfl
      have y1 := h4.out.cell (i := 1) rfl
      have x0 := h5.out.cell (i := 0) rfl
      have x1 := h5.out.cell (i := 1) rfl
      clear X2 X3 P1 sC
      have e1 : D2 = decide (al b a p ≤ 0) := hD2.out
      rw [← cmp_le] at e1
      replace e1 := hid0 e1
      generalize al b a p = N at *
      clear hD2
      go_wp2_with (first
        | (go_at_call 106; refine (I2.out _).mono ?_; rintro e w2 ⟨z2, rfl, hz2, g2⟩; obtain ⟨r2, o2, l2, c2, rfl, hz2'⟩ := hz2.shape; clear I2 hz2)
        | (go_at_call 52; refine (sign_num _ N _ hz2'.out).mono ?_; rintro e w3 ⟨rfl, g3⟩))
      go_meet
      case rel => exact ⟨by rw [e1.out], g2.trans (g3.below.mono g2.size)⟩
    obtain ⟨wo, hwo⟩ : ∃ wo : World, wo = wc := ⟨_, rfl⟩
    rename_i wc2
    obtain ⟨rfl, hcut⟩ := hcut
    replace hcut := hcut.out
    replace h3 := hid0 (h3.out.bl hcut)
    replace h4 := hid0 (h4.out.bl hcut)
    replace h5 := hid0 (h5.out.bl hcut)
    replace h6 := hid0 (h6.out.mono hcut h6.out.lt)
    replace h7 := hid0 (h7.out.mono hcut h7.out.lt)
    replace h8 := hid0 (h8.out.mono hcut h8.out.lt)
    replace hN := hid0 (hN.out.mono hcut)
    replace hb := hb.trans (hcut.mono hb.size)
    clear hcut I2
    cases D2 with
    | true =>
      have eF := X2.out (of_decide_eq_true hD2.out.symm)
      clear X2 X3 hD2 P1 sC
      go_upto_region 5 with fail
      obtain ⟨nF, hnF⟩ : ∃ nF : Nat, 5 ≤ nF := ⟨5, by omega⟩
      have h1n : 1 ≤ nF := by omega
      refine (wpIn_wide (n := nF)).1 ?_
      refine region_inv (by kernel_rfl) (by kernel_rfl) (InvO5 w.heap.size w b3 b4 b5 b6 b7 b8 a b p r1 o1 l1 c1 (pt a.1 a.2) (pt b.1 b.2) (pt p.1 p.2) (.pointer (some ⟨b3, 0, none⟩)) (.pointer (some ⟨b4, 0, none⟩)) (.pointer (some ⟨b5, 0, none⟩)) (.pointer (some ⟨b6, 0, none⟩)) (.pointer (some ⟨b7, 0, none⟩)) (.pointer (some ⟨b8, 0, none⟩)) undef u10 u11 u12 u13 u14 u15 u16 u17 u18 u19 u20 u21 u22 u23 u24 u25 u26 u27 u28 u29 u30 (.bool true) u36 u37 u38 u39 u40 u41 u42 u43 u44 u45) ?h0 ?hstep ?hend
      case h0 =>
        exact ⟨_, _, _, _, rfl, hb.drew, h3.out, h4.out, h5.out, h8.out, hN.out.drew, ⟨_, _, h6.out, fun h => h.elim⟩, ⟨_, _, h7.out, fun h => h.elim⟩, fun h => h.elim, fun h => h.elim, fun h => h.elim, fun h => h.elim⟩
      case hstep =>
        intro d' a' wI i o ho hnd D hdn hI
        have hi := (List.getElem?_eq_some_iff.1 ho).1
        simp only [List.length_cons, List.length_nil] at hi
        have : i = 0 ∨ i = 1 ∨ i = 2 ∨ i = 3 ∨ i = 4 ∨ i = 5 := by omega
        clear hi
        rcases this with rfl | rfl | rfl | rfl | rfl | rfl
        · -- 0
          cases ho
          obtain ⟨u32, u33, u34, u35, rfl, hb', h3, h4, h5, h8, hN, g_b6, g_b7, f0, f1, f2, f3⟩ := hI
          have z0 := h4.out.cell (i := 0) rfl
          have z1 := h4.out.cell (i := 1) rfl
          gi_wp2
          exact ⟨_, _, _, _, rfl, hb', h3, h4, h5, h8, hN, (by obtain ⟨x, y, k, c⟩ := g_b6.out; exact ⟨x, y, k, fun h => c (or_ne h (by decide))⟩), (by obtain ⟨x, y, k, c⟩ := g_b7.out; exact ⟨x, y, k, fun h => c (or_ne h (by decide))⟩), (fun _ => rfl), (fun h => f1.out (or_ne h (by decide))), (fun h => f2.out (or_ne h (by decide))), (fun h => f3.out (or_ne h (by decide)))⟩
        · -- 1
          cases ho
          obtain ⟨u32, u33, u34, u35, rfl, hb', h3, h4, h5, h8, hN, g_b6, g_b7, f0, f1, f2, f3⟩ := hI
          have z0 := h5.out.cell (i := 0) rfl
          have z1 := h5.out.cell (i := 1) rfl
          gi_wp2
          exact ⟨_, _, _, _, rfl, hb', h3, h4, h5, h8, hN, (by obtain ⟨x, y, k, c⟩ := g_b6.out; exact ⟨x, y, k, fun h => c (or_ne h (by decide))⟩), (by obtain ⟨x, y, k, c⟩ := g_b7.out; exact ⟨x, y, k, fun h => c (or_ne h (by decide))⟩), (fun h => f0.out (or_ne h (by decide))), (fun _ => rfl), (fun h => f2.out (or_ne h (by decide))), (fun h => f3.out (or_ne h (by decide)))⟩
        · -- 2
          cases ho
          obtain ⟨u32, u33, u34, u35, rfl, hb', h3, h4, h5, h8, hN, g_b6, g_b7, f0, f1, f2, f3⟩ := hI
          have e0 := f0.out (D 0 (by kernel_rfl))
          subst e0
          have e1 := f1.out (D 1 (by kernel_rfl))
          subst e1
          gi_wp2_with (refine (callsIn_wide.2 (rsquare_lat b p lb.out lp.out _)).mono ?_; rintro e w1 ⟨z, rfl, hz, h1⟩)
          exact ⟨_, _, _, _, rfl, (hb'.trans (h1.mono hb'.size)), (h3.out.bl h1), (h4.out.bl h1), (h5.out.bl h1), (h8.out.mono h1 h8.out.lt), (hN.out.mono h1), (by obtain ⟨x, y, k, c⟩ := g_b6.out; exact ⟨x, y, k.mono h1 k.lt, fun h => (c (or_ne h (by decide))).mono h1⟩), (by obtain ⟨x, y, k, c⟩ := g_b7.out; exact ⟨x, y, k.mono h1 k.lt, fun h => (c (or_ne h (by decide))).mono h1⟩), (fun _ => rfl), (fun _ => rfl), (fun _ => hz), (fun h => f3.out (or_ne h (by decide)))⟩
        · -- 3
          cases ho
          obtain ⟨u32, u33, u34, u35, rfl, hb', h3, h4, h5, h8, hN, g_b6, g_b7, f0, f1, f2, f3⟩ := hI
          have z0 := h8.out.c0
          have z1 := h8.out.c1
          gi_wp2
          exact ⟨_, _, _, _, rfl, hb', h3, h4, h5, h8, hN, (by obtain ⟨x, y, k, c⟩ := g_b6.out; exact ⟨x, y, k, fun h => c (or_ne h (by decide))⟩), (by obtain ⟨x, y, k, c⟩ := g_b7.out; exact ⟨x, y, k, fun h => c (or_ne h (by decide))⟩), (fun h => f0.out (or_ne h (by decide))), (fun h => f1.out (or_ne h (by decide))), (fun h => f2.out (or_ne h (by decide))), (fun _ => rfl)⟩
        · -- 4
          cases ho
          obtain ⟨u32, u33, u34, u35, rfl, hb', h3, h4, h5, h8, hN, g_b6, g_b7, f0, f1, f2, f3⟩ := hI
          have e2 := f2.out (D 2 (by kernel_rfl))
          obtain ⟨r2, o2, l2, c2, rfl, e2'⟩ := e2.shape
          clear e2
          obtain ⟨x, y, kM, cM⟩ := g_b6.out
          have q0 := kM.c0
          have q1 := kM.c1
          have q2 := kM.f0
          have q3 := kM.f1
          gi_wp2
          exact ⟨_, _, _, _, rfl, ((hb'.setCell (p := ⟨b6, 0, none⟩) (by simp only []; omega) (.bool r2)).setCell (p := ⟨b6, 1, none⟩) (by simp only []; omega) (.slice o2 l2 c2)), ((h3.out.other (p := ⟨b6, 0, none⟩) (show b3 ≠ b6 by omega) _).other (p := ⟨b6, 1, none⟩) (show b3 ≠ b6 by omega) _), ((h4.out.other (p := ⟨b6, 0, none⟩) (show b4 ≠ b6 by omega) _).other (p := ⟨b6, 1, none⟩) (show b4 ≠ b6 by omega) _), ((h5.out.other (p := ⟨b6, 0, none⟩) (show b5 ≠ b6 by omega) _).other (p := ⟨b6, 1, none⟩) (show b5 ≠ b6 by omega) _), ((h8.out.other (p := ⟨b6, 0, none⟩) (show b8 ≠ b6 by omega) _).other (p := ⟨b6, 1, none⟩) (show b8 ≠ b6 by omega) _), ((hN.out.setBk kM _).setBk (kM.set0 _) _), ⟨_, _, (kM.set0 _).set1 _, fun _ => ((e2'.out.setBk kM _).setBk (kM.set0 _) _)⟩, (by obtain ⟨x', y', k, c⟩ := g_b7.out; exact ⟨x', y', (k.other (p := ⟨b6, 0, none⟩) (show b7 ≠ b6 by omega) _).other (p := ⟨b6, 1, none⟩) (show b7 ≠ b6 by omega) _, fun h => (((c (or_ne h (by decide))).setBk kM _).setBk (kM.set0 _) _)⟩), (fun h => f0.out (or_ne h (by decide))), (fun h => f1.out (or_ne h (by decide))), (fun _ => ((e2'.out.setBk kM _).setBk (kM.set0 _) _)), (fun h => f3.out (or_ne h (by decide)))⟩
        · -- 5
          cases ho
          obtain ⟨u32, u33, u34, u35, rfl, hb', h3, h4, h5, h8, hN, g_b6, g_b7, f0, f1, f2, f3⟩ := hI
          have e3 := f3.out (D 3 (by kernel_rfl))
          subst e3
          obtain ⟨x, y, kM, cM⟩ := g_b7.out
          have q0 := kM.c0
          have q1 := kM.c1
          have q2 := kM.f0
          have q3 := kM.f1
          gi_wp2
          exact ⟨_, _, _, _, rfl, ((hb'.setCell (p := ⟨b7, 0, none⟩) (by simp only []; omega) (.bool r1)).setCell (p := ⟨b7, 1, none⟩) (by simp only []; omega) (.slice o1 l1 c1)), ((h3.out.other (p := ⟨b7, 0, none⟩) (show b3 ≠ b7 by omega) _).other (p := ⟨b7, 1, none⟩) (show b3 ≠ b7 by omega) _), ((h4.out.other (p := ⟨b7, 0, none⟩) (show b4 ≠ b7 by omega) _).other (p := ⟨b7, 1, none⟩) (show b4 ≠ b7 by omega) _), ((h5.out.other (p := ⟨b7, 0, none⟩) (show b5 ≠ b7 by omega) _).other (p := ⟨b7, 1, none⟩) (show b5 ≠ b7 by omega) _), ((h8.out.other (p := ⟨b7, 0, none⟩) (show b8 ≠ b7 by omega) _).other (p := ⟨b7, 1, none⟩) (show b8 ≠ b7 by omega) _), ((hN.out.setBk kM _).setBk (kM.set0 _) _), (by obtain ⟨x', y', k, c⟩ := g_b6.out; exact ⟨x', y', (k.other (p := ⟨b7, 0, none⟩) (show b6 ≠ b7 by omega) _).other (p := ⟨b7, 1, none⟩) (show b6 ≠ b7 by omega) _, fun h => (((c (or_ne h (by decide))).setBk kM _).setBk (kM.set0 _) _)⟩), ⟨_, _, (kM.set0 _).set1 _, fun _ => ((hN.out.setBk kM _).setBk (kM.set0 _) _)⟩, (fun h => f0.out (or_ne h (by decide))), (fun h => f1.out (or_ne h (by decide))), (fun h => (((f2.out (or_ne h (by decide))).setBk kM _).setBk (kM.set0 _) _)), (fun _ => rfl)⟩
      case hend =>
        intro d' a' w' hall hI
        obtain ⟨u32, u33, u34, u35, rfl, hb', h3, h4, h5, h8, hN, g_b6, g_b7, f0, f1, f2, f3⟩ := hI
        simp only [List.length_cons, List.length_nil] at hall
        obtain ⟨x_b6, y_b6, k_b6, c_b6⟩ := g_b6.out
        have m_b6 := c_b6 (hall 4 (by decide))
        obtain ⟨x_b7, y_b7, k_b7, c_b7⟩ := g_b7.out
        have m_b7 := c_b7 (hall 5 (by decide))
        have q0 := k_b6.c0
        have q1 := k_b6.c1
        have q2 := k_b7.c0
        have q3 := k_b7.c1
        obtain ⟨r, o, l, c, e, m'⟩ := m_b6.shape
        cases e
        obtain ⟨r', o', l', c', e, m''⟩ := m_b7.shape
        cases e
        clear hall f0 f1 f2 f3 g_b6 g_b7 c_b6 c_b7
        go_wp2
        refine bodyPost_ret (v := .tuple #[.agg #[.bool r, .slice o l c], .agg #[.bool r', .slice o' l' c']]) (by simp [results, Try.results78, go_sem, q0, q1, q2, q3]) rfl ⟨_, _, rfl, ?_, ?_, hb'⟩
        · rw [eF]; exact m'.out
        · rw [eF]; exact m''.out
    | false =>
      have eF := X3.out (by have h := of_decide_eq_false hD2.out.symm; omega)
      clear X2 X3 hD2 hN
      have z0 := h3.out.cell (i := 0) rfl
      have z1 := h3.out.cell (i := 1) rfl
      have y0 := h4.out.cell (i := 0) rfl
      have y1 := h4.out.cell (i := 1) rfl
      have x0 := h5.out.cell (i := 0) rfl
      have x1 := h5.out.cell (i := 1) rfl
      go_upto_region 7 with (go_at_call 107; refine (P1.out _).mono ?_; rintro e w4 ⟨z4, rfl, hC, g4⟩; obtain ⟨r9, o9, l9, c9, rfl, hC'⟩ := hC.shape; clear P1 hC)
      clear z0 z1 y0 y1 x0 x1
      have h9 := hid0 (Bk.new w4 (.bool r9) (.slice o9 l9 c9))
      have gA := ((Gr.refl w4).alloc (.cells #[.bool r9, .slice o9 l9 c9] 53)).below
      have gB := g4.trans (gA.mono g4.size)
      have hC := hid0 (hC'.out.mono gA)
      have lt9 : b8 < w4.heap.size := Nat.lt_of_lt_of_le h8.out.lt g4.size
      replace h3 := hid0 (h3.out.bl gB)
      replace h4 := hid0 (h4.out.bl gB)
      replace h5 := hid0 (h5.out.bl gB)
      replace h6 := hid0 (h6.out.mono gB h6.out.lt)
      replace h7 := hid0 (h7.out.mono gB h7.out.lt)
      replace hb := hb.trans (gB.mono hb.size)
      obtain ⟨b9, e9⟩ : ∃ b9, b9 = w4.heap.size := ⟨_, rfl⟩
      rw [← e9] at h9 lt9 ⊢
      clear e9 g4 gA gB hC' h8
      generalize w4.alloc (.cells #[.bool r9, .slice o9 l9 c9] 53) = W9 at *
      obtain ⟨nF, hnF⟩ : ∃ nF : Nat, 5 ≤ nF := ⟨5, by omega⟩
      have h1n : 1 ≤ nF := by omega
      refine (wpIn_wide (n := nF)).1 ?_
      refine region_inv (by kernel_rfl) (by kernel_rfl) (InvO7 w.heap.size w b3 b4 b5 b6 b7 b9 a b p r9 o9 l9 c9 (pt a.1 a.2) (pt b.1 b.2) (pt p.1 p.2) (.pointer (some ⟨b3, 0, none⟩)) (.pointer (some ⟨b4, 0, none⟩)) (.pointer (some ⟨b5, 0, none⟩)) (.pointer (some ⟨b6, 0, none⟩)) (.pointer (some ⟨b7, 0, none⟩)) (.pointer (some ⟨b8, 0, none⟩)) (.pointer (some ⟨b9, 0, none⟩)) u10 u11 u12 u13 u14 u15 u16 u17 u18 u19 u20 u21 u22 u23 u24 u25 u26 u27 u28 u29 u30 (.bool false) u32 u33 u34 u35 (pt a.1 a.2) (pt b.1 b.2) (pt p.1 p.2) (.agg #[.bool r9, .slice o9 l9 c9])) ?h0 ?hstep ?hend
      case h0 =>
        exact ⟨_, _, _, _, _, _, rfl, hb.drew, h3.out, h4.out, h5.out, h9.out, hC.out.drew, ⟨_, _, h6.out, fun h => h.elim⟩, ⟨_, _, h7.out, fun h => h.elim⟩, fun h => h.elim, fun h => h.elim, fun h => h.elim, fun h => h.elim, fun h => h.elim, fun h => h.elim⟩
      case hstep =>
        intro d' a' wI i o ho hnd D hdn hI
        have hi := (List.getElem?_eq_some_iff.1 ho).1
        simp only [List.length_cons, List.length_nil] at hi
        have : i = 0 ∨ i = 1 ∨ i = 2 ∨ i = 3 ∨ i = 4 ∨ i = 5 ∨ i = 6 ∨ i = 7 := by omega
        clear hi
        rcases this with rfl | rfl | rfl | rfl | rfl | rfl | rfl | rfl
        · -- 0
          cases ho
          obtain ⟨u40, u41, u42, u43, u44, u45, rfl, hb', h3, h4, h5, h9, hC, g_b6, g_b7, f0, f1, f2, f3, f4, f5⟩ := hI
          have z0 := h9.out.c0
          have z1 := h9.out.c1
          gi_wp2
          exact ⟨_, _, _, _, _, _, rfl, hb', h3, h4, h5, h9, hC, (by obtain ⟨x, y, k, c⟩ := g_b6.out; exact ⟨x, y, k, fun h => c (or_ne h (by decide))⟩), (by obtain ⟨x, y, k, c⟩ := g_b7.out; exact ⟨x, y, k, fun h => c (or_ne h (by decide))⟩), (fun _ => rfl), (fun h => f1.out (or_ne h (by decide))), (fun h => f2.out (or_ne h (by decide))), (fun h => f3.out (or_ne h (by decide))), (fun h => f4.out (or_ne h (by decide))), (fun h => f5.out (or_ne h (by decide)))⟩
        · -- 1
          cases ho
          obtain ⟨u40, u41, u42, u43, u44, u45, rfl, hb', h3, h4, h5, h9, hC, g_b6, g_b7, f0, f1, f2, f3, f4, f5⟩ := hI
          have z0 := h9.out.c0
          have z1 := h9.out.c1
          gi_wp2
          exact ⟨_, _, _, _, _, _, rfl, hb', h3, h4, h5, h9, hC, (by obtain ⟨x, y, k, c⟩ := g_b6.out; exact ⟨x, y, k, fun h => c (or_ne h (by decide))⟩), (by obtain ⟨x, y, k, c⟩ := g_b7.out; exact ⟨x, y, k, fun h => c (or_ne h (by decide))⟩), (fun h => f0.out (or_ne h (by decide))), (fun _ => rfl), (fun h => f2.out (or_ne h (by decide))), (fun h => f3.out (or_ne h (by decide))), (fun h => f4.out (or_ne h (by decide))), (fun h => f5.out (or_ne h (by decide)))⟩
        · -- 2
          cases ho
          obtain ⟨u40, u41, u42, u43, u44, u45, rfl, hb', h3, h4, h5, h9, hC, g_b6, g_b7, f0, f1, f2, f3, f4, f5⟩ := hI
          have e0 := f0.out (D 0 (by kernel_rfl))
          subst e0
          have e1 := f1.out (D 1 (by kernel_rfl))
          subst e1
          gi_wp2_with (refine (callsIn_wide.2 (mul_num _ _ (cr a b p) (cr a b p) _ hC.out hC.out sC.out sC.out)).mono ?_; rintro e w1 ⟨z, rfl, hz, h1⟩)
          exact ⟨_, _, _, _, _, _, rfl, (hb'.trans (h1.mono hb'.size)), (h3.out.bl h1), (h4.out.bl h1), (h5.out.bl h1), (h9.out.mono h1 h9.out.lt), (hC.out.mono h1), (by obtain ⟨x, y, k, c⟩ := g_b6.out; exact ⟨x, y, k.mono h1 k.lt, fun h => (c (or_ne h (by decide))).mono h1⟩), (by obtain ⟨x, y, k, c⟩ := g_b7.out; exact ⟨x, y, k.mono h1 k.lt, fun h => (c (or_ne h (by decide))).mono h1⟩), (fun _ => rfl), (fun _ => rfl), (fun _ => hz), (fun h => f3.out (or_ne h (by decide))), (fun h => f4.out (or_ne h (by decide))), (fun h => (f5.out (or_ne h (by decide))).mono h1)⟩
        · -- 3
          cases ho
          obtain ⟨u40, u41, u42, u43, u44, u45, rfl, hb', h3, h4, h5, h9, hC, g_b6, g_b7, f0, f1, f2, f3, f4, f5⟩ := hI
          have z0 := h3.out.cell (i := 0) rfl
          have z1 := h3.out.cell (i := 1) rfl
          gi_wp2
          exact ⟨_, _, _, _, _, _, rfl, hb', h3, h4, h5, h9, hC, (by obtain ⟨x, y, k, c⟩ := g_b6.out; exact ⟨x, y, k, fun h => c (or_ne h (by decide))⟩), (by obtain ⟨x, y, k, c⟩ := g_b7.out; exact ⟨x, y, k, fun h => c (or_ne h (by decide))⟩), (fun h => f0.out (or_ne h (by decide))), (fun h => f1.out (or_ne h (by decide))), (fun h => f2.out (or_ne h (by decide))), (fun _ => rfl), (fun h => f4.out (or_ne h (by decide))), (fun h => f5.out (or_ne h (by decide)))⟩
        · -- 4
          cases ho
          obtain ⟨u40, u41, u42, u43, u44, u45, rfl, hb', h3, h4, h5, h9, hC, g_b6, g_b7, f0, f1, f2, f3, f4, f5⟩ := hI
          have z0 := h4.out.cell (i := 0) rfl
          have z1 := h4.out.cell (i := 1) rfl
          gi_wp2
          exact ⟨_, _, _, _, _, _, rfl, hb', h3, h4, h5, h9, hC, (by obtain ⟨x, y, k, c⟩ := g_b6.out; exact ⟨x, y, k, fun h => c (or_ne h (by decide))⟩), (by obtain ⟨x, y, k, c⟩ := g_b7.out; exact ⟨x, y, k, fun h => c (or_ne h (by decide))⟩), (fun h => f0.out (or_ne h (by decide))), (fun h => f1.out (or_ne h (by decide))), (fun h => f2.out (or_ne h (by decide))), (fun h => f3.out (or_ne h (by decide))), (fun _ => rfl), (fun h => f5.out (or_ne h (by decide)))⟩
        · -- 5
          cases ho
          obtain ⟨u40, u41, u42, u43, u44, u45, rfl, hb', h3, h4, h5, h9, hC, g_b6, g_b7, f0, f1, f2, f3, f4, f5⟩ := hI
          have e3 := f3.out (D 3 (by kernel_rfl))
          subst e3
          have e4 := f4.out (D 4 (by kernel_rfl))
          subst e4
          gi_wp2_with (refine (callsIn_wide.2 (rsquare_lat a b la.out lb.out _)).mono ?_; rintro e w1 ⟨z, rfl, hz, h1⟩)
          exact ⟨_, _, _, _, _, _, rfl, (hb'.trans (h1.mono hb'.size)), (h3.out.bl h1), (h4.out.bl h1), (h5.out.bl h1), (h9.out.mono h1 h9.out.lt), (hC.out.mono h1), (by obtain ⟨x, y, k, c⟩ := g_b6.out; exact ⟨x, y, k.mono h1 k.lt, fun h => (c (or_ne h (by decide))).mono h1⟩), (by obtain ⟨x, y, k, c⟩ := g_b7.out; exact ⟨x, y, k.mono h1 k.lt, fun h => (c (or_ne h (by decide))).mono h1⟩), (fun h => f0.out (or_ne h (by decide))), (fun h => f1.out (or_ne h (by decide))), (fun h => (f2.out (or_ne h (by decide))).mono h1), (fun _ => rfl), (fun _ => rfl), (fun _ => hz)⟩
        · -- 6
          cases ho
          obtain ⟨u40, u41, u42, u43, u44, u45, rfl, hb', h3, h4, h5, h9, hC, g_b6, g_b7, f0, f1, f2, f3, f4, f5⟩ := hI
          have e2 := f2.out (D 2 (by kernel_rfl))
          obtain ⟨r2, o2, l2, c2, rfl, e2'⟩ := e2.shape
          clear e2
          obtain ⟨x, y, kM, cM⟩ := g_b6.out
          have q0 := kM.c0
          have q1 := kM.c1
          have q2 := kM.f0
          have q3 := kM.f1
          gi_wp2
          exact ⟨_, _, _, _, _, _, rfl, ((hb'.setCell (p := ⟨b6, 0, none⟩) (by simp only []; omega) (.bool r2)).setCell (p := ⟨b6, 1, none⟩) (by simp only []; omega) (.slice o2 l2 c2)), ((h3.out.other (p := ⟨b6, 0, none⟩) (show b3 ≠ b6 by omega) _).other (p := ⟨b6, 1, none⟩) (show b3 ≠ b6 by omega) _), ((h4.out.other (p := ⟨b6, 0, none⟩) (show b4 ≠ b6 by omega) _).other (p := ⟨b6, 1, none⟩) (show b4 ≠ b6 by omega) _), ((h5.out.other (p := ⟨b6, 0, none⟩) (show b5 ≠ b6 by omega) _).other (p := ⟨b6, 1, none⟩) (show b5 ≠ b6 by omega) _), ((h9.out.other (p := ⟨b6, 0, none⟩) (show b9 ≠ b6 by omega) _).other (p := ⟨b6, 1, none⟩) (show b9 ≠ b6 by omega) _), ((hC.out.setBk kM _).setBk (kM.set0 _) _), ⟨_, _, (kM.set0 _).set1 _, fun _ => ((e2'.out.setBk kM _).setBk (kM.set0 _) _)⟩, (by obtain ⟨x', y', k, c⟩ := g_b7.out; exact ⟨x', y', (k.other (p := ⟨b6, 0, none⟩) (show b7 ≠ b6 by omega) _).other (p := ⟨b6, 1, none⟩) (show b7 ≠ b6 by omega) _, fun h => (((c (or_ne h (by decide))).setBk kM _).setBk (kM.set0 _) _)⟩), (fun h => f0.out (or_ne h (by decide))), (fun h => f1.out (or_ne h (by decide))), (fun _ => ((e2'.out.setBk kM _).setBk (kM.set0 _) _)), (fun h => f3.out (or_ne h (by decide))), (fun h => f4.out (or_ne h (by decide))), (fun h => (((f5.out (or_ne h (by decide))).setBk kM _).setBk (kM.set0 _) _))⟩
        · -- 7
          cases ho
          obtain ⟨u40, u41, u42, u43, u44, u45, rfl, hb', h3, h4, h5, h9, hC, g_b6, g_b7, f0, f1, f2, f3, f4, f5⟩ := hI
          have e5 := f5.out (D 5 (by kernel_rfl))
          obtain ⟨r5, o5, l5, c5, rfl, e5'⟩ := e5.shape
          clear e5
          obtain ⟨x, y, kM, cM⟩ := g_b7.out
          have q0 := kM.c0
          have q1 := kM.c1
          have q2 := kM.f0
          have q3 := kM.f1
          gi_wp2
          exact ⟨_, _, _, _, _, _, rfl, ((hb'.setCell (p := ⟨b7, 0, none⟩) (by simp only []; omega) (.bool r5)).setCell (p := ⟨b7, 1, none⟩) (by simp only []; omega) (.slice o5 l5 c5)), ((h3.out.other (p := ⟨b7, 0, none⟩) (show b3 ≠ b7 by omega) _).other (p := ⟨b7, 1, none⟩) (show b3 ≠ b7 by omega) _), ((h4.out.other (p := ⟨b7, 0, none⟩) (show b4 ≠ b7 by omega) _).other (p := ⟨b7, 1, none⟩) (show b4 ≠ b7 by omega) _), ((h5.out.other (p := ⟨b7, 0, none⟩) (show b5 ≠ b7 by omega) _).other (p := ⟨b7, 1, none⟩) (show b5 ≠ b7 by omega) _), ((h9.out.other (p := ⟨b7, 0, none⟩) (show b9 ≠ b7 by omega) _).other (p := ⟨b7, 1, none⟩) (show b9 ≠ b7 by omega) _), ((hC.out.setBk kM _).setBk (kM.set0 _) _), (by obtain ⟨x', y', k, c⟩ := g_b6.out; exact ⟨x', y', (k.other (p := ⟨b7, 0, none⟩) (show b6 ≠ b7 by omega) _).other (p := ⟨b7, 1, none⟩) (show b6 ≠ b7 by omega) _, fun h => (((c (or_ne h (by decide))).setBk kM _).setBk (kM.set0 _) _)⟩), ⟨_, _, (kM.set0 _).set1 _, fun _ => ((e5'.out.setBk kM _).setBk (kM.set0 _) _)⟩, (fun h => f0.out (or_ne h (by decide))), (fun h => f1.out (or_ne h (by decide))), (fun h => (((f2.out (or_ne h (by decide))).setBk kM _).setBk (kM.set0 _) _)), (fun h => f3.out (or_ne h (by decide))), (fun h => f4.out (or_ne h (by decide))), (fun _ => ((e5'.out.setBk kM _).setBk (kM.set0 _) _))⟩
      case hend =>
        intro d' a' w' hall hI
        obtain ⟨u40, u41, u42, u43, u44, u45, rfl, hb', h3, h4, h5, h9, hC, g_b6, g_b7, f0, f1, f2, f3, f4, f5⟩ := hI
        simp only [List.length_cons, List.length_nil] at hall
        obtain ⟨x_b6, y_b6, k_b6, c_b6⟩ := g_b6.out
        have m_b6 := c_b6 (hall 6 (by decide))
        obtain ⟨x_b7, y_b7, k_b7, c_b7⟩ := g_b7.out
        have m_b7 := c_b7 (hall 7 (by decide))
        have q0 := k_b6.c0
        have q1 := k_b6.c1
        have q2 := k_b7.c0
        have q3 := k_b7.c1
        obtain ⟨r, o, l, c, e, m'⟩ := m_b6.shape
        cases e
        obtain ⟨r', o', l', c', e, m''⟩ := m_b7.shape
        cases e
        clear hall f0 f1 f2 f3 f4 f5 g_b6 g_b7 c_b6 c_b7
        go_wp2
        refine bodyPost_ret (v := .tuple #[.agg #[.bool r, .slice o l c], .agg #[.bool r', .slice o' l' c']]) (by simp [results, Try.results78, go_sem, q0, q1, q2, q3]) rfl ⟨_, _, rfl, ?_, ?_, hb'⟩
        · rw [eF]; exact m'.out
        · rw [eF]; exact m''.out
end
end Go.Proofs.Ytljdnahomhbenaa
