/- The law's step: a call of both. -/
import Derived.Test.YtpikhdfndnpidaaLa
import Derived.Test.YtpikhdfndnpidaaRk
set_option linter.unusedSimpArgs false
set_option linter.unusedVariables false
namespace Go.Proofs.Ytpikhdfndnpidaa
open Go.RowKit Go.Sort Go.Shelf

theorem Pair.reads {base : Nat} {W : World} {T R : Nat} {t : At} (h : Pair base W T R t) (b : Q4) (fv : Value) (V : World) (g : BW W V) (hI : ItR V (.pointer (some ⟨T, 0, none⟩)) b fv) : Calls Try.prog 18 #[fv, .int .i64 0] V fun e w' => ∃ u, e = .returned u ∧ Hid (Reads w' u (rngL b t.er.toL)) ∧ Below V.heap.size V w' :=
  told_tree T t fv b V (h.one.below g) hI
set_option maxRecDepth 100000 in
set_option maxHeartbeats 8000000 in
theorem step_1 (base T R : Nat) (t : At) (id a b c d px py qx qy nn : Int) (w : World) (h : Pair base w T R t) :
    Calls Try.prog 9 #[.pointer (some ⟨T, 0, none⟩), .pointer (some ⟨R, 0, none⟩), stV 1 id a b c d px py qx qy nn] w fun e w' => ∃ t' : At, e = .returned (.bool true) ∧ Pair base w' T R t' ∧ Below base w w' := by
  have k5 := Bk.new w 38 (stL 1 id a b c d px py qx qy nn)
  have g0 := (Gr.refl w).alloc (.cells (stL 1 id a b c d px py qx qy nn).toArray 38)
  have HP := hid0 (h.gr g0)
  have HB : Hid (Below base w (w.alloc (.cells (stL 1 id a b c d px py qx qy nn).toArray 38))) := g0.below.mono h.sz
  clear h g0
  go_enter Try.func9, Try.ntmps9
  go_upto_region 3 with fail
  generalize w.alloc (.cells (stL 1 id a b c d px py qx qy nn).toArray 38) = W at *
  obtain ⟨b5, e5⟩ : ∃ b5, b5 = w.heap.size := ⟨_, rfl⟩
  rw [← e5] at k5 ⊢
  clear e5
  have c1 : ∀ V, Bk V b5 38 (stL 1 id a b c d px py qx qy nn) → V.cell? ⟨b5, 1, none⟩ = (stL 1 id a b c d px py qx qy nn)[1]? := fun V k => k.at 1
  have c2 : ∀ V, Bk V b5 38 (stL 1 id a b c d px py qx qy nn) → V.cell? ⟨b5, 2, none⟩ = (stL 1 id a b c d px py qx qy nn)[2]? := fun V k => k.at 2
  have c3 : ∀ V, Bk V b5 38 (stL 1 id a b c d px py qx qy nn) → V.cell? ⟨b5, 3, none⟩ = (stL 1 id a b c d px py qx qy nn)[3]? := fun V k => k.at 3
  have c4 : ∀ V, Bk V b5 38 (stL 1 id a b c d px py qx qy nn) → V.cell? ⟨b5, 4, none⟩ = (stL 1 id a b c d px py qx qy nn)[4]? := fun V k => k.at 4
  have c5 : ∀ V, Bk V b5 38 (stL 1 id a b c d px py qx qy nn) → V.cell? ⟨b5, 5, none⟩ = (stL 1 id a b c d px py qx qy nn)[5]? := fun V k => k.at 5
  simp only [List.getElem?_cons_zero, List.getElem?_cons_succ] at c1 c2 c3 c4 c5
  have P1 : Hid (∀ V, Gr W V → Calls Try.prog 13 #[.pointer (some ⟨T, 0, none⟩), .int .u32 id, bx a b c d] V fun e w' => ∃ t' : At, e = .returned (.int .i64 (putE id (a, b, c, d) t.er.toL)) ∧ TreeIs w' T t' ∧ t'.er.toL = putL id (a, b, c, d) t.er.toL ∧ V.grownBy w' (some T)) := fun V g => put_any T t id (a, b, c, d) V (HP.out.gr g).one
  have P2 : Hid (∀ V V1, Gr W V → V.grownBy V1 (some T) → Calls Try.prog 14 #[.pointer (some ⟨R, 0, none⟩), .int .u32 id, bx a b c d] V1 fun e w' => e = .returned (.int .i64 (putE id (a, b, c, d) t.er.toL)) ∧ RefIs w' base R (putL id (a, b, c, d) t.er.toL) ∧ RCh V1 w' base R) := fun V V1 g g1 => rput_any base R t.er.toL id (a, b, c, d) V1 ((HP.out.gr g).ref.ch (HP.out.gr g).one.blk (by decide) (by decide) (by decide) g1) HP.out.one.srt HP.out.one.few (Nat.le_trans (HP.out.gr g).sz g1.size)
  generalize putE id (a, b, c, d) t.er.toL = PE at *
  go_region_held3 (fun V => Bk V b5 38 (stL 1 id a b c d px py qx qy nn))
    (first
      | assumption
      | exact k5.gr ((Gr.refl W).drew))
    (first
      | (go_at_call 13; refine (P1.out _ ((Gr.refl W).drew)).mono ?_; rintro e v1 ⟨t', rfl, h1, h2, h3⟩; have s1 := (k5.gr ((Gr.refl W).drew)).oth ((HP.out.gr ((Gr.refl W).drew)).one.blk) (by decide) h3)
      | (go_at_call 14; refine (P2.out _ _ ((Gr.refl W).drew) h3).mono ?_; rintro e v2 ⟨rfl, h4, h5⟩; have s2 := ((HP.out.gr ((Gr.refl W).drew)).ref.ch (HP.out.gr ((Gr.refl W).drew)).one.blk (by decide) (by decide) (by decide) h3).keepB h5 s1 (by decide) (by decide) (by decide)))
  go_wp2
  go_ret
  obtain ⟨q1, q2⟩ := (HP.out.gr ((Gr.refl W).drew)).put h3 h1 (by rw [h2]; exact h4) h5
  exact ⟨t', rfl, q1, HB.out.trans ((((Gr.refl W).drew).below.mono HP.out.sz).trans q2)⟩
set_option maxRecDepth 100000 in
set_option maxHeartbeats 8000000 in
theorem step_2 (base T R : Nat) (t : At) (id a b c d px py qx qy nn : Int) (w : World) (h : Pair base w T R t) :
    Calls Try.prog 9 #[.pointer (some ⟨T, 0, none⟩), .pointer (some ⟨R, 0, none⟩), stV 2 id a b c d px py qx qy nn] w fun e w' => ∃ t' : At, e = .returned (.bool true) ∧ Pair base w' T R t' ∧ Below base w w' := by
  have k5 := Bk.new w 38 (stL 2 id a b c d px py qx qy nn)
  have g0 := (Gr.refl w).alloc (.cells (stL 2 id a b c d px py qx qy nn).toArray 38)
  have HP := hid0 (h.gr g0)
  have HB : Hid (Below base w (w.alloc (.cells (stL 2 id a b c d px py qx qy nn).toArray 38))) := g0.below.mono h.sz
  clear h g0
  go_enter Try.func9, Try.ntmps9
  go_upto_region 5 with fail
  generalize w.alloc (.cells (stL 2 id a b c d px py qx qy nn).toArray 38) = W at *
  obtain ⟨b5, e5⟩ : ∃ b5, b5 = w.heap.size := ⟨_, rfl⟩
  rw [← e5] at k5 ⊢
  clear e5
  have c1 : ∀ V, Bk V b5 38 (stL 2 id a b c d px py qx qy nn) → V.cell? ⟨b5, 1, none⟩ = (stL 2 id a b c d px py qx qy nn)[1]? := fun V k => k.at 1
  simp only [List.getElem?_cons_zero, List.getElem?_cons_succ] at c1
  have P1 : Hid (∀ V, Gr W V → Calls Try.prog 15 #[.pointer (some ⟨T, 0, none⟩), .int .u32 id] V fun e w' => ∃ t' : At, e = .returned (.int .i64 (delE id t.er.toL)) ∧ TreeIs w' T t' ∧ t'.er.toL = PT.rmv id t.er.toL ∧ V.grownBy w' (some T)) := fun V g => del_any T t id V (HP.out.gr g).one
  have P2 : Hid (∀ V V1, Gr W V → V.grownBy V1 (some T) → Calls Try.prog 23 #[.pointer (some ⟨R, 0, none⟩), .int .u32 id] V1 fun e w' => e = .returned (.int .i64 (delE id t.er.toL)) ∧ RefIs w' base R (PT.rmv id t.er.toL) ∧ RCh V1 w' base R) := fun V V1 g g1 => rdel_any base R t.er.toL id V1 ((HP.out.gr g).ref.ch (HP.out.gr g).one.blk (by decide) (by decide) (by decide) g1) HP.out.one.srt HP.out.one.few (Nat.le_trans (HP.out.gr g).sz g1.size)
  generalize delE id t.er.toL = PE at *
  go_region_held3 (fun V => Bk V b5 38 (stL 2 id a b c d px py qx qy nn))
    (first
      | assumption
      | exact k5.gr ((Gr.refl W).drew))
    (first
      | (go_at_call 15; refine (P1.out _ ((Gr.refl W).drew)).mono ?_; rintro e v1 ⟨t', rfl, h1, h2, h3⟩; have s1 := (k5.gr ((Gr.refl W).drew)).oth ((HP.out.gr ((Gr.refl W).drew)).one.blk) (by decide) h3)
      | (go_at_call 23; refine (P2.out _ _ ((Gr.refl W).drew) h3).mono ?_; rintro e v2 ⟨rfl, h4, h5⟩; have s2 := ((HP.out.gr ((Gr.refl W).drew)).ref.ch (HP.out.gr ((Gr.refl W).drew)).one.blk (by decide) (by decide) (by decide) h3).keepB h5 s1 (by decide) (by decide) (by decide)))
  go_wp2
  go_ret
  obtain ⟨q1, q2⟩ := (HP.out.gr ((Gr.refl W).drew)).put h3 h1 (by rw [h2]; exact h4) h5
  exact ⟨t', rfl, q1, HB.out.trans ((((Gr.refl W).drew).below.mono HP.out.sz).trans q2)⟩
set_option maxRecDepth 100000 in
set_option maxHeartbeats 8000000 in
theorem step_3 (base T R : Nat) (t : At) (id a b c d px py qx qy nn : Int) (w : World) (h : Pair base w T R t) :
    Calls Try.prog 9 #[.pointer (some ⟨T, 0, none⟩), .pointer (some ⟨R, 0, none⟩), stV 3 id a b c d px py qx qy nn] w fun e w' => ∃ t' : At, e = .returned (.bool true) ∧ Pair base w' T R t' ∧ Below base w w' := by
  have k5 := Bk.new w 38 (stL 3 id a b c d px py qx qy nn)
  have g0 := (Gr.refl w).alloc (.cells (stL 3 id a b c d px py qx qy nn).toArray 38)
  have HP := hid0 (h.gr g0)
  have HB : Hid (Below base w (w.alloc (.cells (stL 3 id a b c d px py qx qy nn).toArray 38))) := g0.below.mono h.sz
  clear h g0
  go_enter Try.func9, Try.ntmps9
  go_upto_region 7 with fail
  generalize w.alloc (.cells (stL 3 id a b c d px py qx qy nn).toArray 38) = W at *
  obtain ⟨b5, e5⟩ : ∃ b5, b5 = w.heap.size := ⟨_, rfl⟩
  rw [← e5] at k5 ⊢
  clear e5
  have c1 := cell_bw (k5.at 1)
  have B1 := hid0 (tbox_any T t id W HP.out.one)
  have B2 : Hid (∀ V, Gr W V → Calls Try.prog 27 #[.pointer (some ⟨R, 0, none⟩), .int .u32 id] V fun e w' => e = .returned (.tuple #[bv (boxL id t.er.toL), .bool (hasI id t.er.toL)]) ∧ Gr V w') := fun V g => rbox_any base R t.er.toL id V (HP.out.gr g).ref HP.out.one.srt HP.out.len
  generalize boxL id t.er.toL = Q at *
  generalize hasI id t.er.toL = HI at *
  dsimp only [bv, bx] at B1 B2
  have d1 := k5.at 1
  simp only [List.getElem?_cons_zero, List.getElem?_cons_succ] at d1
  clear c1
  go_wp2_with fail
  refine B1.out.mono ?_
  rintro e v1 ⟨rfl, g1⟩
  have gA := g1.alloc (.cells #[.int .i32 Q.1, .int .i32 Q.2.1, .int .i32 Q.2.2.1, .int .i32 Q.2.2.2] 36)
  have k7 := Bk.new v1 36 [.int .i32 Q.1, .int .i32 Q.2.1, .int .i32 Q.2.2.1, .int .i32 Q.2.2.2]
  have d2 := (k5.gr gA).at 1
  simp only [List.getElem?_cons_zero, List.getElem?_cons_succ] at d2
  clear d1 B1
  go_wp2_with fail
  refine (B2.out _ gA).mono ?_
  rintro e v2 ⟨rfl, g2⟩
  have gB := (gA.trans g2).alloc (.cells #[.int .i32 Q.1, .int .i32 Q.2.1, .int .i32 Q.2.2.1, .int .i32 Q.2.2.2] 36)
  obtain ⟨y0, y1, y2, y3⟩ := ((k7.gr g2).alloc (.cells #[.int .i32 Q.1, .int .i32 Q.2.1, .int .i32 Q.2.2.1, .int .i32 Q.2.2.2] 36)).four
  obtain ⟨z0, z1, z2, z3⟩ := (Bk.new v2 36 [.int .i32 Q.1, .int .i32 Q.2.1, .int .i32 Q.2.2.1, .int .i32 Q.2.2.2]).four
  clear d2 B2
  go_wp2
  go_ret
  exact ⟨t, rfl, HP.out.gr gB, HB.out.trans (gB.below.mono HP.out.sz)⟩
set_option maxRecDepth 100000 in
set_option maxHeartbeats 8000000 in
theorem step_4 (base T R : Nat) (t : At) (id a b c d px py qx qy nn : Int) (w : World) (h : Pair base w T R t) :
    Calls Try.prog 9 #[.pointer (some ⟨T, 0, none⟩), .pointer (some ⟨R, 0, none⟩), stV 4 id a b c d px py qx qy nn] w fun e w' => ∃ t' : At, e = .returned (.bool true) ∧ Pair base w' T R t' ∧ Below base w w' := by
  have k5 := Bk.new w 38 (stL 4 id a b c d px py qx qy nn)
  have g0 := (Gr.refl w).alloc (.cells (stL 4 id a b c d px py qx qy nn).toArray 38)
  have HP := hid0 (h.gr g0)
  have HB : Hid (Below base w (w.alloc (.cells (stL 4 id a b c d px py qx qy nn).toArray 38))) := g0.below.mono h.sz
  clear h g0
  go_enter Try.func9, Try.ntmps9
  go_upto_region 11 with fail
  generalize w.alloc (.cells (stL 4 id a b c d px py qx qy nn).toArray 38) = W at *
  obtain ⟨b5, e5⟩ : ∃ b5, b5 = w.heap.size := ⟨_, rfl⟩
  rw [← e5] at k5 ⊢
  clear e5
  have c6 := cell_bw (k5.at 6)
  have c7 := cell_bw (k5.at 7)
  have TD : Hid (∀ fv V, BW W V → ItR V (.pointer (some ⟨T, 0, none⟩)) (px, py, px, py) fv → Calls Try.prog 18 #[fv, .int .i64 0] V fun e w' => ∃ u, e = .returned u ∧ Hid (Reads w' u (rngL (px, py, px, py) t.er.toL)) ∧ Below V.heap.size V w') := fun fv V g hI => HP.out.reads (px, py, px, py) fv V g hI
  have RQ : Hid (∀ V, BW W V → Calls Try.prog 28 #[.pointer (some ⟨R, 0, none⟩), pt px py] V fun e w' => ∃ u, e = .returned u ∧ Hid (Reads w' u (rngL (px, py, px, py) t.er.toL)) ∧ Below V.heap.size V w') := fun V g => rat_any base R t.er.toL px py V (HP.out.ref.below g) HP.out.len
  have FW : Hid ((rngL (px, py, px, py) t.er.toL).length ≤ 1000000) := by have := rngL_len (px, py, px, py) t.er.toL; have := HP.out.len; unfold Hid; omega
  generalize rngL (px, py, px, py) t.er.toL = LL at *
  go_region_held3 (BW W)
    (first
      | exact BW.drew _
      | assumption
      | exact BW.gr (by assumption) (by assumption)
      | exact BW.tr (by assumption) (by assumption))
    (first
      | (go_at_call 20; refine (at_any _ px py _).mono ?_; rintro e v1 ⟨f1, rfl, i1, g1⟩)
      | (go_at_call 18; refine (TD.out f1 _ (by assumption) i1).mono ?_; rintro e v2 ⟨r1, rfl, q1, g2⟩)
      | (go_at_call 28; refine (RQ.out _ (by assumption)).mono ?_; rintro e v3 ⟨r2, rfl, q2, g3⟩)
      | (go_at_call 17; refine (same_eq r1 r2 _ FW.out _ (q1.out.below g3) q2.out).mono ?_; rintro e v4 ⟨rfl, g4⟩))
  rename_i hH
  go_wp2
  go_ret
  exact ⟨t, rfl, HP.out.below hH, HB.out.trans (hH.mono HP.out.sz)⟩
set_option maxRecDepth 100000 in
set_option maxHeartbeats 8000000 in
theorem step_5 (base T R : Nat) (t : At) (id a b c d px py qx qy nn : Int) (w : World) (h : Pair base w T R t) :
    Calls Try.prog 9 #[.pointer (some ⟨T, 0, none⟩), .pointer (some ⟨R, 0, none⟩), stV 5 id a b c d px py qx qy nn] w fun e w' => ∃ t' : At, e = .returned (.bool true) ∧ Pair base w' T R t' ∧ Below base w w' := by
  have k5 := Bk.new w 38 (stL 5 id a b c d px py qx qy nn)
  have g0 := (Gr.refl w).alloc (.cells (stL 5 id a b c d px py qx qy nn).toArray 38)
  have HP := hid0 (h.gr g0)
  have HB : Hid (Below base w (w.alloc (.cells (stL 5 id a b c d px py qx qy nn).toArray 38))) := g0.below.mono h.sz
  clear h g0
  go_enter Try.func9, Try.ntmps9
  go_upto_region 13 with fail
  generalize w.alloc (.cells (stL 5 id a b c d px py qx qy nn).toArray 38) = W at *
  obtain ⟨b5, e5⟩ : ∃ b5, b5 = w.heap.size := ⟨_, rfl⟩
  rw [← e5] at k5 ⊢
  clear e5
  have c6 := cell_bw (k5.at 6)
  have c7 := cell_bw (k5.at 7)
  have c8 := cell_bw (k5.at 8)
  have c9 := cell_bw (k5.at 9)
  have TD : Hid (∀ fv V, BW W V → ItR V (.pointer (some ⟨T, 0, none⟩)) (boxOf px py qx qy) fv → Calls Try.prog 18 #[fv, .int .i64 0] V fun e w' => ∃ u, e = .returned u ∧ Hid (Reads w' u (rngL (boxOf px py qx qy) t.er.toL)) ∧ Below V.heap.size V w') := fun fv V g hI => HP.out.reads (boxOf px py qx qy) fv V g hI
  have RQ : Hid (∀ V, BW W V → Calls Try.prog 29 #[.pointer (some ⟨R, 0, none⟩), pt px py, pt qx qy] V fun e w' => ∃ u, e = .returned u ∧ Hid (Reads w' u (rngL (boxOf px py qx qy) t.er.toL)) ∧ Below V.heap.size V w') := fun V g => rcrossing_any base R t.er.toL px py qx qy V (HP.out.ref.below g) HP.out.len
  have FW : Hid ((rngL (boxOf px py qx qy) t.er.toL).length ≤ 1000000) := by have := rngL_len (boxOf px py qx qy) t.er.toL; have := HP.out.len; unfold Hid; omega
  generalize rngL (boxOf px py qx qy) t.er.toL = LL at *
  go_region_held3 (BW W)
    (first
      | exact BW.drew _
      | assumption
      | exact BW.gr (by assumption) (by assumption)
      | exact BW.tr (by assumption) (by assumption))
    (first
      | (go_at_call 21; refine (crossing_any _ px py qx qy _).mono ?_; rintro e v1 ⟨f1, rfl, i1, g1⟩)
      | (go_at_call 18; refine (TD.out f1 _ (by assumption) i1).mono ?_; rintro e v2 ⟨r1, rfl, q1, g2⟩)
      | (go_at_call 29; refine (RQ.out _ (by assumption)).mono ?_; rintro e v3 ⟨r2, rfl, q2, g3⟩)
      | (go_at_call 17; refine (same_eq r1 r2 _ FW.out _ (q1.out.below g3) q2.out).mono ?_; rintro e v4 ⟨rfl, g4⟩))
  rename_i hH
  go_wp2
  go_ret
  exact ⟨t, rfl, HP.out.below hH, HB.out.trans (hH.mono HP.out.sz)⟩
set_option maxRecDepth 100000 in
set_option maxHeartbeats 8000000 in
theorem step_6 (base T R : Nat) (t : At) (id a b c d px py qx qy nn : Int) (w : World) (h : Pair base w T R t) :
    Calls Try.prog 9 #[.pointer (some ⟨T, 0, none⟩), .pointer (some ⟨R, 0, none⟩), stV 6 id a b c d px py qx qy nn] w fun e w' => ∃ t' : At, e = .returned (.bool true) ∧ Pair base w' T R t' ∧ Below base w w' := by
  have k5 := Bk.new w 38 (stL 6 id a b c d px py qx qy nn)
  have g0 := (Gr.refl w).alloc (.cells (stL 6 id a b c d px py qx qy nn).toArray 38)
  have HP := hid0 (h.gr g0)
  have HB : Hid (Below base w (w.alloc (.cells (stL 6 id a b c d px py qx qy nn).toArray 38))) := g0.below.mono h.sz
  clear h g0
  go_enter Try.func9, Try.ntmps9
  go_upto_region 15 with fail
  generalize w.alloc (.cells (stL 6 id a b c d px py qx qy nn).toArray 38) = W at *
  obtain ⟨b5, e5⟩ : ∃ b5, b5 = w.heap.size := ⟨_, rfl⟩
  rw [← e5] at k5 ⊢
  clear e5
  have c2 := cell_bw (k5.at 2)
  have c3 := cell_bw (k5.at 3)
  have c4 := cell_bw (k5.at 4)
  have c5 := cell_bw (k5.at 5)
  have TD : Hid (∀ fv V, BW W V → ItR V (.pointer (some ⟨T, 0, none⟩)) (a, b, c, d) fv → Calls Try.prog 18 #[fv, .int .i64 0] V fun e w' => ∃ u, e = .returned u ∧ Hid (Reads w' u (rngL (a, b, c, d) t.er.toL)) ∧ Below V.heap.size V w') := fun fv V g hI => HP.out.reads (a, b, c, d) fv V g hI
  have RQ : Hid (∀ V, BW W V → Calls Try.prog 22 #[.pointer (some ⟨R, 0, none⟩), bx a b c d] V fun e w' => ∃ u, e = .returned u ∧ Hid (Reads w' u (rngL (a, b, c, d) t.er.toL)) ∧ Below V.heap.size V w') := fun V g => rrange_any base R t.er.toL (a, b, c, d) V (HP.out.ref.below g) HP.out.len
  have RA : Hid (∀ w, Calls Try.prog 19 #[.pointer (some ⟨T, 0, none⟩), bx a b c d] w fun e w' => ∃ fv, e = .returned fv ∧ ItR w' (.pointer (some ⟨T, 0, none⟩)) (a, b, c, d) fv ∧ Gr w w') := range_any _ (a, b, c, d)
  have FW : Hid ((rngL (a, b, c, d) t.er.toL).length ≤ 1000000) := by have := rngL_len (a, b, c, d) t.er.toL; have := HP.out.len; unfold Hid; omega
  generalize rngL (a, b, c, d) t.er.toL = LL at *
  go_region_held3 (BW W)
    (first
      | exact BW.drew _
      | assumption
      | exact BW.gr (by assumption) (by assumption)
      | exact BW.tr (by assumption) (by assumption))
    (first
      | (go_at_call 19; refine (RA.out _).mono ?_; rintro e v1 ⟨f1, rfl, i1, g1⟩)
      | (go_at_call 18; refine (TD.out f1 _ (by assumption) i1).mono ?_; rintro e v2 ⟨r1, rfl, q1, g2⟩)
      | (go_at_call 22; refine (RQ.out _ (by assumption)).mono ?_; rintro e v3 ⟨r2, rfl, q2, g3⟩)
      | (go_at_call 17; refine (same_eq r1 r2 _ FW.out _ (q1.out.below g3) q2.out).mono ?_; rintro e v4 ⟨rfl, g4⟩))
  rename_i hH
  go_wp2
  go_ret
  exact ⟨t, rfl, HP.out.below hH, HB.out.trans (hH.mono HP.out.sz)⟩
set_option maxRecDepth 100000 in
set_option maxHeartbeats 8000000 in
theorem step_7 (base T R : Nat) (t : At) (id a b c d px py qx qy nn : Int) (w : World) (h : Pair base w T R t) :
    Calls Try.prog 9 #[.pointer (some ⟨T, 0, none⟩), .pointer (some ⟨R, 0, none⟩), stV 7 id a b c d px py qx qy nn] w fun e w' => ∃ t' : At, e = .returned (.bool true) ∧ Pair base w' T R t' ∧ Below base w w' := by
  have k5 := Bk.new w 38 (stL 7 id a b c d px py qx qy nn)
  have g0 := (Gr.refl w).alloc (.cells (stL 7 id a b c d px py qx qy nn).toArray 38)
  have HP := hid0 (h.gr g0)
  have HB : Hid (Below base w (w.alloc (.cells (stL 7 id a b c d px py qx qy nn).toArray 38))) := g0.below.mono h.sz
  clear h g0
  go_enter Try.func9, Try.ntmps9
  go_upto_region 17 with fail
  generalize w.alloc (.cells (stL 7 id a b c d px py qx qy nn).toArray 38) = W at *
  obtain ⟨b5, e5⟩ : ∃ b5, b5 = w.heap.size := ⟨_, rfl⟩
  rw [← e5] at k5 ⊢
  clear e5
  have AL := hid0 (lall_any T base R t W HP.out.one HP.out.ref)
  go_wp2_with fail
  refine AL.out.mono ?_
  rintro e v1 ⟨rfl, hH⟩
  go_wp2
  go_ret
  exact ⟨t, rfl, HP.out.below hH, HB.out.trans (hH.mono HP.out.sz)⟩
end Go.Proofs.Ytpikhdfndnpidaa
