/- The program's fromLow, fromHigh and level: a node over two parts whose depths may be two apart. -/
import Derived.Test.YtpikhdfndnpidaaTf
set_option linter.unusedSimpArgs false
set_option linter.unusedVariables false
namespace Go.Proofs.Ytpikhdfndnpidaa
open Go.RowKit Go.Sort

theorem cell_if {W : World} {a : Addr} {x : Value} (h : W.cell? a = some x) : ∀ w', Gr W w' → w'.cell? a = some x := fun _ g => below_cell h g.below
/-- A part that may be dealt with: its boxes are right, it isn't great. -/
def PT.Ok (t : PT) : Prop := PT.Rg t ∧ t.toL.length ≤ 300000
theorem PT.ok_nd {i : Int} {q : Q4} {l h : PT} (k : PT.Ok (.nd i q l h)) : rgQ q = true ∧ PT.Ok l ∧ PT.Ok h := by
  obtain ⟨k1, k2⟩ := k
  obtain ⟨a, b, c⟩ := PT.rg_parts.1 k1
  simp only [PT.toL, List.length_append, List.length_cons] at k2
  exact ⟨a, ⟨b, by omega⟩, ⟨c, by omega⟩⟩
theorem PT.Ok.dep {t : PT} (k : PT.Ok t) : t.dep ≤ 1000000 := by have := PT.dep_le t; have := k.2; omega
/-- What a node over two parts is: it may be too great by one for a further one, never beyond. -/
theorem PT.ok_mk {i : Int} {q : Q4} {l h : PT} (hq : rgQ q = true) (k1 : PT.Ok l) (k2 : PT.Ok h) (hs : l.toL.length + h.toL.length < 300000) : PT.Ok (.nd i q l h) :=
  ⟨PT.rg_parts.2 ⟨hq, k1.1, k2.1⟩, by simp only [PT.toL, List.length_append, List.length_cons]; omega⟩
theorem over_ok (i : Int) (q : Q4) (l h : At) (hq : rgQ q = true) (kl : PT.Ok l.er) (kh : PT.Ok h.er) (w : World) (hl : TrAt w l) (hh : TrAt w h) :
    Calls Try.prog 46 #[ent i q, l.ptr, h.ptr] w fun e w' => ∃ b, e = .returned (.pointer (some ⟨b, 0, none⟩)) ∧ Hid (TrAt w' (.nd b i q l h)) ∧ Gr w w' :=
  over_any i q l h w hl hh hq kl.1 kh.1 kl.dep kh.dep
set_option maxRecDepth 20000 in
set_option maxHeartbeats 4000000 in
theorem fromLow_deep (i : Int) (q : Q4) (bx : Nat) (xi : Int) (xq : Q4) (o s : At) (bm : Nat) (mi : Int) (mq : Q4) (ml mh : At) (w : World) (hd : o.er.dep < (At.nd bm mi mq ml mh).er.dep) (hx : TrAt w (At.nd bx xi xq o (.nd bm mi mq ml mh))) (hs : TrAt w s) (hq : rgQ q = true) (kx : PT.Ok (At.nd bx xi xq o (.nd bm mi mq ml mh)).er) (ks : PT.Ok s.er)
    (hn : (At.nd bx xi xq o (.nd bm mi mq ml mh)).er.toL.length + s.er.toL.length < 300000) :
    Calls Try.prog 54 #[ent i q, .pointer (some ⟨bx, 0, none⟩), s.ptr] w fun e w' => ∃ t : At, e = .returned t.ptr ∧ TrAt w' t ∧ t.er = PT.fromLow i q (At.nd bx xi xq o (.nd bm mi mq ml mh)).er s.er ∧ Gr w w' := by
  have k1 := PT.ok_nd kx
  simp only [At.er, PT.toL, List.length_append, List.length_cons] at hn
  have k2 := PT.ok_nd k1.2.2
  have kA : PT.Ok (PT.nd xi xq o.er ml.er) := PT.ok_mk k1.1 k1.2.1 k2.2.1 (by omega)
  have kB : PT.Ok (PT.nd i q mh.er s.er) := PT.ok_mk hq k2.2.2 ks (by omega)
  have F : Hid (PT.fromLow i q (At.nd bx xi xq o (.nd bm mi mq ml mh)).er s.er = PT.nd mi mq (PT.nd xi xq o.er ml.er) (PT.nd i q mh.er s.er)) := by
    unfold Hid; simp only [At.er, PT.fromLow] at hd ⊢; rw [if_pos hd]
  have D1 : Hid (∀ w, TrAt w (.nd bm mi mq ml mh) → Calls Try.prog 26 #[.pointer (some ⟨bm, 0, none⟩)] w fun e w' => e = .returned (.int .i64 ((At.nd bm mi mq ml mh).er.dep : Nat)) ∧ w' = w) := deep_any (.nd bm mi mq ml mh)
  have D2 := hid0 (deep_any o)
  have O1 := hid0 (over_ok xi xq o ml k1.1 k1.2.1 k2.2.1)
  have O2 := hid0 (over_ok i q mh s hq k2.2.2 ks)
  have O3 : Hid (∀ b1 b2 W, TrAt W (.nd b1 xi xq o ml) → TrAt W (.nd b2 i q mh s) → Calls Try.prog 46 #[ent mi mq, .pointer (some ⟨b1, 0, none⟩), .pointer (some ⟨b2, 0, none⟩)] W fun e w' => ∃ b, e = .returned (.pointer (some ⟨b, 0, none⟩)) ∧ Hid (TrAt w' (.nd b mi mq (.nd b1 xi xq o ml) (.nd b2 i q mh s))) ∧ Gr W w') := fun b1 b2 W => over_ok mi mq (.nd b1 xi xq o ml) (.nd b2 i q mh s) k2.1 kA kB W
  have hd' : ((o.er.dep : Nat) : Int) < (((At.nd bm mi mq ml mh).er.dep : Nat) : Int) := by omega
  clear hn k1 k2 kB kA hd kx ks hq
  generalize (((At.nd bm mi mq ml mh).er.dep : Nat) : Int) = dm at *
  generalize ((o.er.dep : Nat) : Int) = dl at *
  obtain ⟨W, hW⟩ : ∃ W, W = w.alloc (.cells #[.int .u32 i, .int .i32 q.1, .int .i32 q.2.1, .int .i32 q.2.2.1, .int .i32 q.2.2.2] 76) := ⟨_, rfl⟩
  have g0 : Gr w W := hW ▸ (Gr.refl w).alloc _
  have ke : Bk W w.heap.size 76 [.int .u32 i, .int .i32 q.1, .int .i32 q.2.1, .int .i32 q.2.2.1, .int .i32 q.2.2.2] := hW ▸ Bk.new w 76 _
  replace hx := hx.gr g0
  have XS := hid0 (hs.gr g0)
  have XM := hid0 hx.2.2
  have XO := hid0 hx.2.1
  have kl := hx.1
  have XA := hid0 XM.out.2.1
  have XB := hid0 XM.out.2.2
  have km := XM.out.1
  clear hx hs
  have c0 := cell_gr (kl.at 0)
  have c1 := cell_gr (kl.at 1)
  have c2 := cell_gr (kl.at 2)
  have c3 := cell_gr (kl.at 3)
  have c4 := cell_gr (kl.at 4)
  have c5 := cell_gr (kl.at 5)
  have c6_ : W.cell? ⟨bx, 6, none⟩ = some (.pointer (some ⟨bm, 0, none⟩)) := kl.at 6
  have m0 := cell_gr (km.at 0)
  have m1 := cell_gr (km.at 1)
  have m2 := cell_gr (km.at 2)
  have m3 := cell_gr (km.at 3)
  have m4 := cell_gr (km.at 4)
  have m5 := cell_gr (km.at 5)
  have m6 := cell_gr (km.at 6)
  have e0 := cell_gr (ke.at 0)
  have e1 := cell_gr (ke.at 1)
  have e2 := cell_gr (ke.at 2)
  have e3 := cell_gr (ke.at 3)
  have e4 := cell_gr (ke.at 4)
  clear kl km ke
  generalize s.ptr = sp at *
  generalize o.ptr = op at *
  generalize ml.ptr = mlp at *
  generalize mh.ptr = mhp at *
  go_enter Try.func54, Try.ntmps54
  go_upto_region 1 with fail
  rw [← hW]
  clear hW
  generalize w.heap.size = BE at *
  go_wp2_with fail
  have QD1 : Hid (∀ n os, Calls Try.prog 26 #[.pointer (some ⟨bm, 0, none⟩)] (grow (W.drewN n) os) fun e w' => e = .returned (.int .i64 dm) ∧ ∃ p : GrownBy, w' = grow (W.drewN p.n) p.os) := fun n os => Calls.grown_of ((D1.out _ (XM.out.gr ⟨n, os, rfl⟩)).mono (by rintro e w' ⟨rfl, rfl⟩; exact ⟨rfl, Gr.refl _⟩))
  have QD2 : Hid (∀ n os, Calls Try.prog 26 #[op] (grow (W.drewN n) os) fun e w' => e = .returned (.int .i64 dl) ∧ ∃ p : GrownBy, w' = grow (W.drewN p.n) p.os) := fun n os => Calls.grown_of ((D2.out _ (XO.out.gr ⟨n, os, rfl⟩)).mono (by rintro e w' ⟨rfl, rfl⟩; exact ⟨rfl, Gr.refl _⟩))
  clear D1 D2
  refine wp_region_quiet_grown (by kernel_rfl) (by kernel_rfl) ?_
  repeat (go_big_quiet_step (fail))
  go_big_quiet_step (exact QD1.out _ _)
  repeat (go_big_quiet_step (fail))
  go_big_quiet_step (exact QD2.out _ _)
  repeat (go_big_quiet_step (fail))
  refine wpQuiet_nil ?_
  intro _ hw'
  obtain ⟨⟨nq, osq⟩, hw''⟩ := hw'
  subst hw''
  clear QD1 QD2
  go_wp2_with fail
  generalize hV : grow (W.drewN nq) osq = V
  have gV : Gr W V := hV ▸ ⟨nq, osq, rfl⟩
  replace c0 := cell_if (hV ▸ c0 nq osq)
  replace c1 := cell_if (hV ▸ c1 nq osq)
  replace c2 := cell_if (hV ▸ c2 nq osq)
  replace c3 := cell_if (hV ▸ c3 nq osq)
  replace c4 := cell_if (hV ▸ c4 nq osq)
  replace c5 := cell_if (hV ▸ c5 nq osq)
  replace m0 := cell_if (hV ▸ m0 nq osq)
  replace m1 := cell_if (hV ▸ m1 nq osq)
  replace m2 := cell_if (hV ▸ m2 nq osq)
  replace m3 := cell_if (hV ▸ m3 nq osq)
  replace m4 := cell_if (hV ▸ m4 nq osq)
  replace m5 := cell_if (hV ▸ m5 nq osq)
  replace m6 := cell_if (hV ▸ m6 nq osq)
  replace e0 := cell_if (hV ▸ e0 nq osq)
  replace e1 := cell_if (hV ▸ e1 nq osq)
  replace e2 := cell_if (hV ▸ e2 nq osq)
  replace e3 := cell_if (hV ▸ e3 nq osq)
  replace e4 := cell_if (hV ▸ e4 nq osq)
  replace XS := hid0 (XS.out.gr gV)
  replace XO := hid0 (XO.out.gr gV)
  replace XA := hid0 (XA.out.gr gV)
  replace XB := hid0 (XB.out.gr gV)
  replace g0 := hid0 (g0.trans gV)
  clear hV gV c6_ XM
  go_region_held3 (Gr V)
    (first
      | exact (Gr.refl _).drew
      | exact Gr.trans (by assumption) (by assumption))
    (first
      | (go_at_call_of 46 mlp; refine (O1.out _ (XO.out.gr (by assumption)) (XA.out.gr (by assumption))).mono ?_; rintro e w5 ⟨b1, rfl, t1, g5⟩)
      | (go_at_call_of 46 mhp; refine (O2.out _ (XB.out.gr (by assumption)) (XS.out.gr (by assumption))).mono ?_; rintro e w6 ⟨b2, rfl, t2, g6⟩)
      | (go_at_call 46; refine (O3.out _ _ _ (t1.out.gr (by assumption)) t2.out).mono ?_; rintro e w7 ⟨b3, rfl, t3, g7⟩))
  rename_i hH
  go_wp2
  go_ret
  refine ⟨.nd b3 mi mq (.nd b1 xi xq o ml) (.nd b2 i q mh s), rfl, t3.out, ?_, g0.out.trans hH⟩
  rw [F.out]
  rfl
set_option maxRecDepth 20000 in
set_option maxHeartbeats 4000000 in
theorem fromLow_flat (i : Int) (q : Q4) (bx : Nat) (xi : Int) (xq : Q4) (o s : At) (m : At) (w : World) (hd : ¬ o.er.dep < m.er.dep) (hx : TrAt w (At.nd bx xi xq o m)) (hs : TrAt w s) (hq : rgQ q = true) (kx : PT.Ok (At.nd bx xi xq o m).er) (ks : PT.Ok s.er)
    (hn : (At.nd bx xi xq o m).er.toL.length + s.er.toL.length < 300000) :
    Calls Try.prog 54 #[ent i q, .pointer (some ⟨bx, 0, none⟩), s.ptr] w fun e w' => ∃ t : At, e = .returned t.ptr ∧ TrAt w' t ∧ t.er = PT.fromLow i q (At.nd bx xi xq o m).er s.er ∧ Gr w w' := by
  have k1 := PT.ok_nd kx
  simp only [At.er, PT.toL, List.length_append, List.length_cons] at hn
  have kA : PT.Ok (PT.nd i q m.er s.er) := PT.ok_mk hq k1.2.2 ks (by omega)
  have F : Hid (PT.fromLow i q (At.nd bx xi xq o m).er s.er = PT.nd xi xq o.er (PT.nd i q m.er s.er)) := by
    unfold Hid; simp only [At.er, PT.fromLow] at hd ⊢; rw [if_neg hd]
  have D1 : Hid (∀ w, TrAt w m → Calls Try.prog 26 #[m.ptr] w fun e w' => e = .returned (.int .i64 (m.er.dep : Nat)) ∧ w' = w) := deep_any m
  have D2 := hid0 (deep_any o)
  have O1 := hid0 (over_ok i q m s hq k1.2.2 ks)
  have O3 : Hid (∀ b1 W, TrAt W o → TrAt W (.nd b1 i q m s) → Calls Try.prog 46 #[ent xi xq, o.ptr, .pointer (some ⟨b1, 0, none⟩)] W fun e w' => ∃ b, e = .returned (.pointer (some ⟨b, 0, none⟩)) ∧ Hid (TrAt w' (.nd b xi xq o (.nd b1 i q m s))) ∧ Gr W w') := fun b1 W => over_ok xi xq o (.nd b1 i q m s) k1.1 k1.2.1 kA W
  have hd' : ¬ ((o.er.dep : Nat) : Int) < ((m.er.dep : Nat) : Int) := by omega
  clear hn k1 kA hd kx ks hq
  generalize ((m.er.dep : Nat) : Int) = dm at *
  generalize ((o.er.dep : Nat) : Int) = dl at *
  obtain ⟨W, hW⟩ : ∃ W, W = w.alloc (.cells #[.int .u32 i, .int .i32 q.1, .int .i32 q.2.1, .int .i32 q.2.2.1, .int .i32 q.2.2.2] 76) := ⟨_, rfl⟩
  have g0 : Gr w W := hW ▸ (Gr.refl w).alloc _
  have ke : Bk W w.heap.size 76 [.int .u32 i, .int .i32 q.1, .int .i32 q.2.1, .int .i32 q.2.2.1, .int .i32 q.2.2.2] := hW ▸ Bk.new w 76 _
  replace hx := hx.gr g0
  have XS := hid0 (hs.gr g0)
  have XM := hid0 hx.2.2
  have XO := hid0 hx.2.1
  have kl := hx.1
  clear hx hs
  have c0 := cell_gr (kl.at 0)
  have c1 := cell_gr (kl.at 1)
  have c2 := cell_gr (kl.at 2)
  have c3 := cell_gr (kl.at 3)
  have c4 := cell_gr (kl.at 4)
  have c5 := cell_gr (kl.at 5)
  have c6_ : W.cell? ⟨bx, 6, none⟩ = some (m.ptr) := kl.at 6
  have c6 := cell_gr c6_
  have e0 := cell_gr (ke.at 0)
  have e1 := cell_gr (ke.at 1)
  have e2 := cell_gr (ke.at 2)
  have e3 := cell_gr (ke.at 3)
  have e4 := cell_gr (ke.at 4)
  clear kl ke
  generalize s.ptr = sp at *
  generalize o.ptr = op at *
  generalize m.ptr = mp at *
  go_enter Try.func54, Try.ntmps54
  go_upto_region 1 with fail
  rw [← hW]
  clear hW
  generalize w.heap.size = BE at *
  go_wp2_with fail
  have QD1 : Hid (∀ n os, Calls Try.prog 26 #[mp] (grow (W.drewN n) os) fun e w' => e = .returned (.int .i64 dm) ∧ ∃ p : GrownBy, w' = grow (W.drewN p.n) p.os) := fun n os => Calls.grown_of ((D1.out _ (XM.out.gr ⟨n, os, rfl⟩)).mono (by rintro e w' ⟨rfl, rfl⟩; exact ⟨rfl, Gr.refl _⟩))
  have QD2 : Hid (∀ n os, Calls Try.prog 26 #[op] (grow (W.drewN n) os) fun e w' => e = .returned (.int .i64 dl) ∧ ∃ p : GrownBy, w' = grow (W.drewN p.n) p.os) := fun n os => Calls.grown_of ((D2.out _ (XO.out.gr ⟨n, os, rfl⟩)).mono (by rintro e w' ⟨rfl, rfl⟩; exact ⟨rfl, Gr.refl _⟩))
  clear D1 D2
  refine wp_region_quiet_grown (by kernel_rfl) (by kernel_rfl) ?_
  repeat (go_big_quiet_step (fail))
  go_big_quiet_step (exact QD1.out _ _)
  repeat (go_big_quiet_step (fail))
  go_big_quiet_step (exact QD2.out _ _)
  repeat (go_big_quiet_step (fail))
  refine wpQuiet_nil ?_
  intro _ hw'
  obtain ⟨⟨nq, osq⟩, hw''⟩ := hw'
  subst hw''
  clear QD1 QD2
  go_wp2_with fail
  generalize hV : grow (W.drewN nq) osq = V
  have gV : Gr W V := hV ▸ ⟨nq, osq, rfl⟩
  replace c0 := cell_if (hV ▸ c0 nq osq)
  replace c1 := cell_if (hV ▸ c1 nq osq)
  replace c2 := cell_if (hV ▸ c2 nq osq)
  replace c3 := cell_if (hV ▸ c3 nq osq)
  replace c4 := cell_if (hV ▸ c4 nq osq)
  replace c5 := cell_if (hV ▸ c5 nq osq)
  replace c6 := cell_if (hV ▸ c6 nq osq)
  replace e0 := cell_if (hV ▸ e0 nq osq)
  replace e1 := cell_if (hV ▸ e1 nq osq)
  replace e2 := cell_if (hV ▸ e2 nq osq)
  replace e3 := cell_if (hV ▸ e3 nq osq)
  replace e4 := cell_if (hV ▸ e4 nq osq)
  replace XS := hid0 (XS.out.gr gV)
  replace XO := hid0 (XO.out.gr gV)
  replace XM := hid0 (XM.out.gr gV)
  replace g0 := hid0 (g0.trans gV)
  clear hV gV c6_
  go_region_held3 (Gr V)
    (first
      | exact (Gr.refl _).drew
      | exact Gr.trans (by assumption) (by assumption))
    (first
      | (go_at_call_of 46 mp; refine (O1.out _ (XM.out.gr (by assumption)) (XS.out.gr (by assumption))).mono ?_; rintro e w5 ⟨b1, rfl, t1, g5⟩)
      | (go_at_call 46; refine (O3.out _ _ (XO.out.gr (by assumption)) (t1.out)).mono ?_; rintro e w7 ⟨b3, rfl, t3, g7⟩))
  rename_i hH
  go_wp2
  go_ret
  refine ⟨.nd b3 xi xq o (.nd b1 i q m s), rfl, t3.out, ?_, g0.out.trans hH⟩
  rw [F.out]
  rfl
set_option maxRecDepth 20000 in
set_option maxHeartbeats 4000000 in
theorem fromHigh_deep (i : Int) (q : Q4) (bx : Nat) (xi : Int) (xq : Q4) (o s : At) (bm : Nat) (mi : Int) (mq : Q4) (ml mh : At) (w : World) (hd : o.er.dep < (At.nd bm mi mq ml mh).er.dep) (hx : TrAt w (At.nd bx xi xq (.nd bm mi mq ml mh) o)) (hs : TrAt w s) (hq : rgQ q = true) (kx : PT.Ok (At.nd bx xi xq (.nd bm mi mq ml mh) o).er) (ks : PT.Ok s.er)
    (hn : (At.nd bx xi xq (.nd bm mi mq ml mh) o).er.toL.length + s.er.toL.length < 300000) :
    Calls Try.prog 55 #[ent i q, s.ptr, .pointer (some ⟨bx, 0, none⟩)] w fun e w' => ∃ t : At, e = .returned t.ptr ∧ TrAt w' t ∧ t.er = PT.fromHigh i q s.er (At.nd bx xi xq (.nd bm mi mq ml mh) o).er ∧ Gr w w' := by
  have k1 := PT.ok_nd kx
  simp only [At.er, PT.toL, List.length_append, List.length_cons] at hn
  have k2 := PT.ok_nd k1.2.1
  have kA : PT.Ok (PT.nd i q s.er ml.er) := PT.ok_mk hq ks k2.2.1 (by omega)
  have kB : PT.Ok (PT.nd xi xq mh.er o.er) := PT.ok_mk k1.1 k2.2.2 k1.2.2 (by omega)
  have F : Hid (PT.fromHigh i q s.er (At.nd bx xi xq (.nd bm mi mq ml mh) o).er = PT.nd mi mq (PT.nd i q s.er ml.er) (PT.nd xi xq mh.er o.er)) := by
    unfold Hid; simp only [At.er, PT.fromHigh] at hd ⊢; rw [if_pos hd]
  have D1 : Hid (∀ w, TrAt w (.nd bm mi mq ml mh) → Calls Try.prog 26 #[.pointer (some ⟨bm, 0, none⟩)] w fun e w' => e = .returned (.int .i64 ((At.nd bm mi mq ml mh).er.dep : Nat)) ∧ w' = w) := deep_any (.nd bm mi mq ml mh)
  have D2 := hid0 (deep_any o)
  have O1 := hid0 (over_ok i q s ml hq ks k2.2.1)
  have O2 := hid0 (over_ok xi xq mh o k1.1 k2.2.2 k1.2.2)
  have O3 : Hid (∀ b1 b2 W, TrAt W (.nd b1 i q s ml) → TrAt W (.nd b2 xi xq mh o) → Calls Try.prog 46 #[ent mi mq, .pointer (some ⟨b1, 0, none⟩), .pointer (some ⟨b2, 0, none⟩)] W fun e w' => ∃ b, e = .returned (.pointer (some ⟨b, 0, none⟩)) ∧ Hid (TrAt w' (.nd b mi mq (.nd b1 i q s ml) (.nd b2 xi xq mh o))) ∧ Gr W w') := fun b1 b2 W => over_ok mi mq (.nd b1 i q s ml) (.nd b2 xi xq mh o) k2.1 kA kB W
  have hd' : ((o.er.dep : Nat) : Int) < (((At.nd bm mi mq ml mh).er.dep : Nat) : Int) := by omega
  clear hn k1 k2 kB kA hd kx ks hq
  generalize (((At.nd bm mi mq ml mh).er.dep : Nat) : Int) = dm at *
  generalize ((o.er.dep : Nat) : Int) = dl at *
  obtain ⟨W, hW⟩ : ∃ W, W = w.alloc (.cells #[.int .u32 i, .int .i32 q.1, .int .i32 q.2.1, .int .i32 q.2.2.1, .int .i32 q.2.2.2] 76) := ⟨_, rfl⟩
  have g0 : Gr w W := hW ▸ (Gr.refl w).alloc _
  have ke : Bk W w.heap.size 76 [.int .u32 i, .int .i32 q.1, .int .i32 q.2.1, .int .i32 q.2.2.1, .int .i32 q.2.2.2] := hW ▸ Bk.new w 76 _
  replace hx := hx.gr g0
  have XS := hid0 (hs.gr g0)
  have XM := hid0 hx.2.1
  have XO := hid0 hx.2.2
  have kl := hx.1
  have XA := hid0 XM.out.2.1
  have XB := hid0 XM.out.2.2
  have km := XM.out.1
  clear hx hs
  have c0 := cell_gr (kl.at 0)
  have c1 := cell_gr (kl.at 1)
  have c2 := cell_gr (kl.at 2)
  have c3 := cell_gr (kl.at 3)
  have c4 := cell_gr (kl.at 4)
  have c6 := cell_gr (kl.at 6)
  have c5_ : W.cell? ⟨bx, 5, none⟩ = some (.pointer (some ⟨bm, 0, none⟩)) := kl.at 5
  have m0 := cell_gr (km.at 0)
  have m1 := cell_gr (km.at 1)
  have m2 := cell_gr (km.at 2)
  have m3 := cell_gr (km.at 3)
  have m4 := cell_gr (km.at 4)
  have m5 := cell_gr (km.at 5)
  have m6 := cell_gr (km.at 6)
  have e0 := cell_gr (ke.at 0)
  have e1 := cell_gr (ke.at 1)
  have e2 := cell_gr (ke.at 2)
  have e3 := cell_gr (ke.at 3)
  have e4 := cell_gr (ke.at 4)
  clear kl km ke
  generalize s.ptr = sp at *
  generalize o.ptr = op at *
  generalize ml.ptr = mlp at *
  generalize mh.ptr = mhp at *
  go_enter Try.func55, Try.ntmps55
  go_upto_region 1 with fail
  rw [← hW]
  clear hW
  generalize w.heap.size = BE at *
  go_wp2_with fail
  have QD1 : Hid (∀ n os, Calls Try.prog 26 #[.pointer (some ⟨bm, 0, none⟩)] (grow (W.drewN n) os) fun e w' => e = .returned (.int .i64 dm) ∧ ∃ p : GrownBy, w' = grow (W.drewN p.n) p.os) := fun n os => Calls.grown_of ((D1.out _ (XM.out.gr ⟨n, os, rfl⟩)).mono (by rintro e w' ⟨rfl, rfl⟩; exact ⟨rfl, Gr.refl _⟩))
  have QD2 : Hid (∀ n os, Calls Try.prog 26 #[op] (grow (W.drewN n) os) fun e w' => e = .returned (.int .i64 dl) ∧ ∃ p : GrownBy, w' = grow (W.drewN p.n) p.os) := fun n os => Calls.grown_of ((D2.out _ (XO.out.gr ⟨n, os, rfl⟩)).mono (by rintro e w' ⟨rfl, rfl⟩; exact ⟨rfl, Gr.refl _⟩))
  clear D1 D2
  refine wp_region_quiet_grown (by kernel_rfl) (by kernel_rfl) ?_
  repeat (go_big_quiet_step (fail))
  go_big_quiet_step (exact QD1.out _ _)
  repeat (go_big_quiet_step (fail))
  go_big_quiet_step (exact QD2.out _ _)
  repeat (go_big_quiet_step (fail))
  refine wpQuiet_nil ?_
  intro _ hw'
  obtain ⟨⟨nq, osq⟩, hw''⟩ := hw'
  subst hw''
  clear QD1 QD2
  go_wp2_with fail
  generalize hV : grow (W.drewN nq) osq = V
  have gV : Gr W V := hV ▸ ⟨nq, osq, rfl⟩
  replace c0 := cell_if (hV ▸ c0 nq osq)
  replace c1 := cell_if (hV ▸ c1 nq osq)
  replace c2 := cell_if (hV ▸ c2 nq osq)
  replace c3 := cell_if (hV ▸ c3 nq osq)
  replace c4 := cell_if (hV ▸ c4 nq osq)
  replace c6 := cell_if (hV ▸ c6 nq osq)
  replace m0 := cell_if (hV ▸ m0 nq osq)
  replace m1 := cell_if (hV ▸ m1 nq osq)
  replace m2 := cell_if (hV ▸ m2 nq osq)
  replace m3 := cell_if (hV ▸ m3 nq osq)
  replace m4 := cell_if (hV ▸ m4 nq osq)
  replace m5 := cell_if (hV ▸ m5 nq osq)
  replace m6 := cell_if (hV ▸ m6 nq osq)
  replace e0 := cell_if (hV ▸ e0 nq osq)
  replace e1 := cell_if (hV ▸ e1 nq osq)
  replace e2 := cell_if (hV ▸ e2 nq osq)
  replace e3 := cell_if (hV ▸ e3 nq osq)
  replace e4 := cell_if (hV ▸ e4 nq osq)
  replace XS := hid0 (XS.out.gr gV)
  replace XO := hid0 (XO.out.gr gV)
  replace XA := hid0 (XA.out.gr gV)
  replace XB := hid0 (XB.out.gr gV)
  replace g0 := hid0 (g0.trans gV)
  clear hV gV c5_ XM
  go_region_held3 (Gr V)
    (first
      | exact (Gr.refl _).drew
      | exact Gr.trans (by assumption) (by assumption))
    (first
      | (go_at_call_of 46 mlp; refine (O1.out _ (XS.out.gr (by assumption)) (XA.out.gr (by assumption))).mono ?_; rintro e w5 ⟨b1, rfl, t1, g5⟩)
      | (go_at_call_of 46 mhp; refine (O2.out _ (XB.out.gr (by assumption)) (XO.out.gr (by assumption))).mono ?_; rintro e w6 ⟨b2, rfl, t2, g6⟩)
      | (go_at_call 46; refine (O3.out _ _ _ (t1.out.gr (by assumption)) t2.out).mono ?_; rintro e w7 ⟨b3, rfl, t3, g7⟩))
  rename_i hH
  go_wp2
  go_ret
  refine ⟨.nd b3 mi mq (.nd b1 i q s ml) (.nd b2 xi xq mh o), rfl, t3.out, ?_, g0.out.trans hH⟩
  rw [F.out]
  rfl
set_option maxRecDepth 20000 in
set_option maxHeartbeats 4000000 in
theorem fromHigh_flat (i : Int) (q : Q4) (bx : Nat) (xi : Int) (xq : Q4) (o s : At) (m : At) (w : World) (hd : ¬ o.er.dep < m.er.dep) (hx : TrAt w (At.nd bx xi xq m o)) (hs : TrAt w s) (hq : rgQ q = true) (kx : PT.Ok (At.nd bx xi xq m o).er) (ks : PT.Ok s.er)
    (hn : (At.nd bx xi xq m o).er.toL.length + s.er.toL.length < 300000) :
    Calls Try.prog 55 #[ent i q, s.ptr, .pointer (some ⟨bx, 0, none⟩)] w fun e w' => ∃ t : At, e = .returned t.ptr ∧ TrAt w' t ∧ t.er = PT.fromHigh i q s.er (At.nd bx xi xq m o).er ∧ Gr w w' := by
  have k1 := PT.ok_nd kx
  simp only [At.er, PT.toL, List.length_append, List.length_cons] at hn
  have kA : PT.Ok (PT.nd i q s.er m.er) := PT.ok_mk hq ks k1.2.1 (by omega)
  have F : Hid (PT.fromHigh i q s.er (At.nd bx xi xq m o).er = PT.nd xi xq (PT.nd i q s.er m.er) o.er) := by
    unfold Hid; simp only [At.er, PT.fromHigh] at hd ⊢; rw [if_neg hd]
  have D1 : Hid (∀ w, TrAt w m → Calls Try.prog 26 #[m.ptr] w fun e w' => e = .returned (.int .i64 (m.er.dep : Nat)) ∧ w' = w) := deep_any m
  have D2 := hid0 (deep_any o)
  have O1 := hid0 (over_ok i q s m hq ks k1.2.1)
  have O3 : Hid (∀ b1 W, TrAt W (.nd b1 i q s m) → TrAt W o → Calls Try.prog 46 #[ent xi xq, .pointer (some ⟨b1, 0, none⟩), o.ptr] W fun e w' => ∃ b, e = .returned (.pointer (some ⟨b, 0, none⟩)) ∧ Hid (TrAt w' (.nd b xi xq (.nd b1 i q s m) o)) ∧ Gr W w') := fun b1 W => over_ok xi xq (.nd b1 i q s m) o k1.1 kA k1.2.2 W
  have hd' : ¬ ((o.er.dep : Nat) : Int) < ((m.er.dep : Nat) : Int) := by omega
  clear hn k1 kA hd kx ks hq
  generalize ((m.er.dep : Nat) : Int) = dm at *
  generalize ((o.er.dep : Nat) : Int) = dl at *
  obtain ⟨W, hW⟩ : ∃ W, W = w.alloc (.cells #[.int .u32 i, .int .i32 q.1, .int .i32 q.2.1, .int .i32 q.2.2.1, .int .i32 q.2.2.2] 76) := ⟨_, rfl⟩
  have g0 : Gr w W := hW ▸ (Gr.refl w).alloc _
  have ke : Bk W w.heap.size 76 [.int .u32 i, .int .i32 q.1, .int .i32 q.2.1, .int .i32 q.2.2.1, .int .i32 q.2.2.2] := hW ▸ Bk.new w 76 _
  replace hx := hx.gr g0
  have XS := hid0 (hs.gr g0)
  have XM := hid0 hx.2.1
  have XO := hid0 hx.2.2
  have kl := hx.1
  clear hx hs
  have c0 := cell_gr (kl.at 0)
  have c1 := cell_gr (kl.at 1)
  have c2 := cell_gr (kl.at 2)
  have c3 := cell_gr (kl.at 3)
  have c4 := cell_gr (kl.at 4)
  have c6 := cell_gr (kl.at 6)
  have c5_ : W.cell? ⟨bx, 5, none⟩ = some (m.ptr) := kl.at 5
  have c5 := cell_gr c5_
  have e0 := cell_gr (ke.at 0)
  have e1 := cell_gr (ke.at 1)
  have e2 := cell_gr (ke.at 2)
  have e3 := cell_gr (ke.at 3)
  have e4 := cell_gr (ke.at 4)
  clear kl ke
  generalize s.ptr = sp at *
  generalize o.ptr = op at *
  generalize m.ptr = mp at *
  go_enter Try.func55, Try.ntmps55
  go_upto_region 1 with fail
  rw [← hW]
  clear hW
  generalize w.heap.size = BE at *
  go_wp2_with fail
  have QD1 : Hid (∀ n os, Calls Try.prog 26 #[mp] (grow (W.drewN n) os) fun e w' => e = .returned (.int .i64 dm) ∧ ∃ p : GrownBy, w' = grow (W.drewN p.n) p.os) := fun n os => Calls.grown_of ((D1.out _ (XM.out.gr ⟨n, os, rfl⟩)).mono (by rintro e w' ⟨rfl, rfl⟩; exact ⟨rfl, Gr.refl _⟩))
  have QD2 : Hid (∀ n os, Calls Try.prog 26 #[op] (grow (W.drewN n) os) fun e w' => e = .returned (.int .i64 dl) ∧ ∃ p : GrownBy, w' = grow (W.drewN p.n) p.os) := fun n os => Calls.grown_of ((D2.out _ (XO.out.gr ⟨n, os, rfl⟩)).mono (by rintro e w' ⟨rfl, rfl⟩; exact ⟨rfl, Gr.refl _⟩))
  clear D1 D2
  refine wp_region_quiet_grown (by kernel_rfl) (by kernel_rfl) ?_
  repeat (go_big_quiet_step (fail))
  go_big_quiet_step (exact QD1.out _ _)
  repeat (go_big_quiet_step (fail))
  go_big_quiet_step (exact QD2.out _ _)
  repeat (go_big_quiet_step (fail))
  refine wpQuiet_nil ?_
  intro _ hw'
  obtain ⟨⟨nq, osq⟩, hw''⟩ := hw'
  subst hw''
  clear QD1 QD2
  go_wp2_with fail
  generalize hV : grow (W.drewN nq) osq = V
  have gV : Gr W V := hV ▸ ⟨nq, osq, rfl⟩
  replace c0 := cell_if (hV ▸ c0 nq osq)
  replace c1 := cell_if (hV ▸ c1 nq osq)
  replace c2 := cell_if (hV ▸ c2 nq osq)
  replace c3 := cell_if (hV ▸ c3 nq osq)
  replace c4 := cell_if (hV ▸ c4 nq osq)
  replace c6 := cell_if (hV ▸ c6 nq osq)
  replace c5 := cell_if (hV ▸ c5 nq osq)
  replace e0 := cell_if (hV ▸ e0 nq osq)
  replace e1 := cell_if (hV ▸ e1 nq osq)
  replace e2 := cell_if (hV ▸ e2 nq osq)
  replace e3 := cell_if (hV ▸ e3 nq osq)
  replace e4 := cell_if (hV ▸ e4 nq osq)
  replace XS := hid0 (XS.out.gr gV)
  replace XO := hid0 (XO.out.gr gV)
  replace XM := hid0 (XM.out.gr gV)
  replace g0 := hid0 (g0.trans gV)
  clear hV gV c5_
  go_region_held3 (Gr V)
    (first
      | exact (Gr.refl _).drew
      | exact Gr.trans (by assumption) (by assumption))
    (first
      | (go_at_call_of 46 mp; refine (O1.out _ (XS.out.gr (by assumption)) (XM.out.gr (by assumption))).mono ?_; rintro e w5 ⟨b1, rfl, t1, g5⟩)
      | (go_at_call 46; refine (O3.out _ _ (t1.out) (XO.out.gr (by assumption))).mono ?_; rintro e w7 ⟨b3, rfl, t3, g7⟩))
  rename_i hH
  go_wp2
  go_ret
  refine ⟨.nd b3 xi xq (.nd b1 i q s m) o, rfl, t3.out, ?_, g0.out.trans hH⟩
  rw [F.out]
  rfl
end Go.Proofs.Ytpikhdfndnpidaa
