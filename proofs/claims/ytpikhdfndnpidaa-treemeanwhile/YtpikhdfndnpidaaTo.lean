/- The program's over: a node over two parts. -/
import Derived.Test.YtpikhdfndnpidaaTr
set_option linter.unusedSimpArgs false
set_option linter.unusedVariables false
namespace Go.Proofs.Ytpikhdfndnpidaa
open Go.RowKit Go.Sort

abbrev ent (i : Int) (q : Q4) : Value := .agg #[.int .u32 i, .int .i32 q.1, .int .i32 q.2.1, .int .i32 q.2.2.1, .int .i32 q.2.2.2]
theorem node_new (w : World) (i : Int) (q : Q4) (l h : Value) : ∃ W, W = (w.alloc (.cells #[.int .u32 i, .int .i32 q.1, .int .i32 q.2.1, .int .i32 q.2.2.1, .int .i32 q.2.2.2] 76)).alloc (.cells #[.int .u32 i, .int .i32 q.1, .int .i32 q.2.1, .int .i32 q.2.2.1, .int .i32 q.2.2.2, l, h, .int .i32 q.1, .int .i32 q.2.1, .int .i32 q.2.2.1, .int .i32 q.2.2.2, .int .i64 0] 80) ∧ Gr w W ∧ Bk W (w.heap.size + 1) 80 (nodeL i q l h q 0) := by
  refine ⟨_, rfl, ((Gr.refl _).alloc _).alloc _, ?_⟩
  have := Bk.new (w.alloc (.cells #[.int .u32 i, .int .i32 q.1, .int .i32 q.2.1, .int .i32 q.2.2.1, .int .i32 q.2.2.2] 76)) 80 (nodeL i q l h q 0)
  rwa [World.size_alloc] at this
theorem max_w {a b : Nat} (ha : a ≤ 1000000) (hb : b ≤ 1000000) : wrap64 (1 + (if (a : Int) < (b : Int) then (b : Int) else (a : Int))) = ((1 + max a b : Nat) : Int) := by
  unfold wrap64
  split <;> omega
theorem set_ar {W : World} {B : Nat} {i : Int} {q r r' : Q4} {l h : Value} {d : Int} (k : Bk W B 80 (nodeL i q l h r d)) : Bk ((((W.setCell ⟨B, 7, none⟩ (.int .i32 r'.1)).setCell ⟨B, 8, none⟩ (.int .i32 r'.2.1)).setCell ⟨B, 9, none⟩ (.int .i32 r'.2.2.1)).setCell ⟨B, 10, none⟩ (.int .i32 r'.2.2.2)) B 80 (nodeL i q l h r' d) :=
  (((k.set 7 _).set 8 _).set 9 _).set 10 _

set_option maxRecDepth 20000 in
set_option maxHeartbeats 4000000 in
theorem over_nn (i : Int) (q : Q4) (w : World) (hq : rgQ q = true) (dl dh : Nat) (el : dl ≤ 1000000) (eh : dh ≤ 1000000) (zl : dl = 0) (zh : dh = 0) :
    Calls Try.prog 46 #[ent i q, .pointer none, .pointer none] w fun e w' => ∃ b, e = .returned (.pointer (some ⟨b, 0, none⟩)) ∧ Bk w' b 80 (nodeL i q (.pointer none) (.pointer none) (q) ((1 + max dl dh : Nat) : Int)) ∧ Gr w w' := by
  have DL : Hid (∀ W, Calls Try.prog 26 #[.pointer none] W fun e w' => e = .returned (.int .i64 (dl : Int)) ∧ w' = W) := fun W => by
    rw [zl]
    exact deep_any .nil W trivial
  have DH : Hid (∀ W, Calls Try.prog 26 #[.pointer none] W fun e w' => e = .returned (.int .i64 (dh : Int)) ∧ w' = W) := fun W => by
    rw [zh]
    exact deep_any .nil W trivial
  have M := hid0 (max_w el eh)
  clear el eh zl zh
  generalize ((1 + max dl dh : Nat) : Int) = DD at *
  generalize (dl : Int) = Dl at *
  generalize (dh : Int) = Dh at *
  go_enter Try.func46, Try.ntmps46
  go_upto_region 2 with fail
  obtain ⟨W, hW, hG, kn⟩ := node_new w i q (.pointer none) (.pointer none)
  rw [← hW]
  clear hW
  obtain ⟨B, hB⟩ : ∃ B, B = w.heap.size + 1 := ⟨_, rfl⟩
  rw [← hB] at kn ⊢
  have HB : Hid (w.heap.size ≤ B) := by unfold Hid; omega
  clear hB
  go_wp2_with fail
  refine (DL.out _).mono ?_
  rintro e w1 ⟨rfl, hw1⟩
  cases hw1
  clear DL
  go_wp2_with fail
  refine (DH.out _).mono ?_
  rintro e w1 ⟨rfl, hw1⟩
  cases hw1
  clear DH
  have y0 := kn.at 11
  have f0 := kn.frozen 11
  simp only [List.getElem?_cons_zero, List.getElem?_cons_succ] at y0
  obtain ⟨MX, hMX⟩ : ∃ MX, MX = wrap64 (1 + (if Dl < Dh then Dh else Dl)) := ⟨_, rfl⟩
  have eM : MX = DD := hMX.trans M.out
  have kn' := kn.set 11 (.int .i64 DD)
  simp only [List.set_cons_zero, List.set_cons_succ] at kn'
  have hG' := hG.setCell (p := ⟨B, 11, none⟩) HB.out (.int .i64 DD)
  clear hMX eM
  go_upto_region 3 with fail
  rw [M.out]
  generalize (if Dl < Dh then Dh else Dl) = MM
  clear hG kn y0 f0 M
  generalize W.setCell ⟨B, 11, none⟩ (.int .i64 DD) = WA at *
  have hG := hG'
  have kn := kn'
  clear hG' kn'
  go_wp2
  go_ret
  exact ⟨B, rfl, kn, hG⟩

set_option maxRecDepth 20000 in
set_option maxHeartbeats 4000000 in
theorem over_nt (i : Int) (q : Q4) (w : World) (hq : rgQ q = true) (dl dh : Nat) (el : dl ≤ 1000000) (eh : dh ≤ 1000000) (bh : Nat) (rh : Q4) (hi : Int) (hq_ : Q4) (hl hh : Value) (kh : Bk w bh 80 (nodeL hi hq_ hl hh rh dh)) (hrh : rgQ rh = true) (zl : dl = 0) :
    Calls Try.prog 46 #[ent i q, .pointer none, .pointer (some ⟨bh, 0, none⟩)] w fun e w' => ∃ b, e = .returned (.pointer (some ⟨b, 0, none⟩)) ∧ Bk w' b 80 (nodeL i q (.pointer none) (.pointer (some ⟨bh, 0, none⟩)) (joinQ (q) rh) ((1 + max dl dh : Nat) : Int)) ∧ Gr w w' := by
  have DL : Hid (∀ W, Calls Try.prog 26 #[.pointer none] W fun e w' => e = .returned (.int .i64 (dl : Int)) ∧ w' = W) := fun W => by
    rw [zl]
    exact deep_any .nil W trivial
  have DH : Hid (∀ W, Bk W bh 80 (nodeL hi hq_ hl hh rh dh) → Calls Try.prog 26 #[.pointer (some ⟨bh, 0, none⟩)] W fun e w' => e = .returned (.int .i64 (dh : Int)) ∧ w' = W) := fun W k => by
    have c := k.at 11
    simp only [List.getElem?_cons_zero, List.getElem?_cons_succ] at c
    clear k
    generalize (dh : Int) = D at *
    go_enter Try.func26, Try.ntmps26
    go_wp2
    go_ret
    exact ⟨rfl, rfl⟩
  have M := hid0 (max_w el eh)
  clear el eh zl
  generalize ((1 + max dl dh : Nat) : Int) = DD at *
  generalize (dl : Int) = Dl at *
  generalize (dh : Int) = Dh at *
  go_enter Try.func46, Try.ntmps46
  go_upto_region 2 with fail
  obtain ⟨W, hW, hG, kn⟩ := node_new w i q (.pointer none) (.pointer (some ⟨bh, 0, none⟩))
  rw [← hW]
  clear hW
  have nh : Hid (bh ≠ w.heap.size + 1) := by have := kh.lt; unfold Hid; omega
  replace kh := kh.gr hG
  obtain ⟨B, hB⟩ : ∃ B, B = w.heap.size + 1 := ⟨_, rfl⟩
  rw [← hB] at kn nh ⊢
  have HB : Hid (w.heap.size ≤ B) := by unfold Hid; omega
  clear hB
  go_wp2_with fail
  refine (DL.out _).mono ?_
  rintro e w1 ⟨rfl, hw1⟩
  cases hw1
  clear DL
  go_wp2_with fail
  refine (DH.out _ kh).mono ?_
  rintro e w1 ⟨rfl, hw1⟩
  cases hw1
  clear DH
  have y0 := kn.at 11
  have f0 := kn.frozen 11
  simp only [List.getElem?_cons_zero, List.getElem?_cons_succ] at y0
  obtain ⟨MX, hMX⟩ : ∃ MX, MX = wrap64 (1 + (if Dl < Dh then Dh else Dl)) := ⟨_, rfl⟩
  have eM : MX = DD := hMX.trans M.out
  have kn' := kn.set 11 (.int .i64 DD)
  simp only [List.set_cons_zero, List.set_cons_succ] at kn'
  have hG' := hG.setCell (p := ⟨B, 11, none⟩) HB.out (.int .i64 DD)
  have kh' := kh.other (a := ⟨B, 11, none⟩) nh.out (.int .i64 DD)
  clear hMX eM
  go_upto_region 3 with fail
  rw [M.out]
  generalize (if Dl < Dh then Dh else Dl) = MM
  clear hG kn y0 f0 M kh
  generalize W.setCell ⟨B, 11, none⟩ (.int .i64 DD) = WA at *
  have hG := hG'
  have kn := kn'
  have kh := kh'
  clear hG' kn' kh'
  go_wp2_with fail

  obtain ⟨x0, x1, x2, x3⟩ : WA.cell? ⟨bh, 7, none⟩ = some (.int .i32 rh.1) ∧ WA.cell? ⟨bh, 8, none⟩ = some (.int .i32 rh.2.1) ∧ WA.cell? ⟨bh, 9, none⟩ = some (.int .i32 rh.2.2.1) ∧ WA.cell? ⟨bh, 10, none⟩ = some (.int .i32 rh.2.2.2) := ⟨kh.at 7, kh.at 8, kh.at 9, kh.at 10⟩
  obtain ⟨y0, y1, y2, y3⟩ : WA.cell? ⟨B, 7, none⟩ = some (.int .i32 (q).1) ∧ WA.cell? ⟨B, 8, none⟩ = some (.int .i32 (q).2.1) ∧ WA.cell? ⟨B, 9, none⟩ = some (.int .i32 (q).2.2.1) ∧ WA.cell? ⟨B, 10, none⟩ = some (.int .i32 (q).2.2.2) := ⟨kn.at 7, kn.at 8, kn.at 9, kn.at 10⟩
  have z0 := cell_gr x0
  have z1 := cell_gr x1
  have z2 := cell_gr x2
  have z3 := cell_gr x3
  have z4 := cell_gr y0
  have z5 := cell_gr y1
  have z6 := cell_gr y2
  have z7 := cell_gr y3
  clear x0 x1 x2 x3 y0 y1 y2 y3
  have QJ : Hid (∀ n os, Calls Try.prog 53 #[bv (q), bv rh] (grow (WA.drewN n) os) fun e w' => e = .returned (bv (joinQ (q) rh)) ∧ ∃ p : GrownBy, w' = grow (WA.drewN p.n) p.os) := fun n os => Calls.grown_of (join_right _ _ _ _ _ _ _ _ (hq) hrh _)
  dsimp only [bv, bx] at QJ
  obtain ⟨nF, hnF⟩ : ∃ nF : Nat, 5 ≤ nF := ⟨5, by omega⟩
  refine (wpIn_wide (n := nF)).1 ?_
  refine region_head_grown 12 (by kernel_rfl) (by kernel_rfl) (by simp) (by kernel_rfl) ?_
  simp only [List.take_succ_cons, List.take_zero, List.drop_succ_cons, List.drop_zero]
  repeat (gi_big_quiet_step (fail))
  refine BigFrame.wpQuietIn_want (by intro w _ f hf; exact trivial) (by rfl) ?_
  intro K hK
  gi_big_quiet_op
  gi_big_quiet_call (exact ⟨fun _ => by omega, callsIn_wide.2 (QJ.out _ _)⟩)
  repeat (gi_big_quiet_step (fail))
  refine wpQuietIn_nil ?_
  intro _ hw'
  obtain ⟨⟨dq, osq⟩, hw''⟩ := hw'
  subst hw''
  have g : Gr WA (grow (WA.drewN dq) osq) := ⟨dq, osq, rfl⟩
  replace hG := hG.trans g
  replace kn := kn.gr g
  replace kh := kh.gr g
  clear z0 z1 z2 z3 z4 z5 z6 z7 QJ g
  generalize grow (WA.drewN dq) osq = WA2 at *
  obtain ⟨y0, y1, y2, y3⟩ : WA2.cell? ⟨B, 7, none⟩ = some (.int .i32 (q).1) ∧ WA2.cell? ⟨B, 8, none⟩ = some (.int .i32 (q).2.1) ∧ WA2.cell? ⟨B, 9, none⟩ = some (.int .i32 (q).2.2.1) ∧ WA2.cell? ⟨B, 10, none⟩ = some (.int .i32 (q).2.2.2) := ⟨kn.at 7, kn.at 8, kn.at 9, kn.at 10⟩
  have f0 := kn.frozen 7
  have f1 := kn.frozen 8
  have f2 := kn.frozen 9
  have f3 := kn.frozen 10
  have gF := (((hG.setCell (p := ⟨B, 7, none⟩) HB.out (.int .i32 (joinQ (q) rh).1)).setCell (p := ⟨B, 8, none⟩) HB.out (.int .i32 (joinQ (q) rh).2.1)).setCell (p := ⟨B, 9, none⟩) HB.out (.int .i32 (joinQ (q) rh).2.2.1)).setCell (p := ⟨B, 10, none⟩) HB.out (.int .i32 (joinQ (q) rh).2.2.2)
  have kF := set_ar (r' := joinQ (q) rh) kn
  have kh' := (((kh.other (a := ⟨B, 7, none⟩) nh.out (.int .i32 (joinQ (q) rh).1)).other (a := ⟨B, 8, none⟩) nh.out (.int .i32 (joinQ (q) rh).2.1)).other (a := ⟨B, 9, none⟩) nh.out (.int .i32 (joinQ (q) rh).2.2.1)).other (a := ⟨B, 10, none⟩) nh.out (.int .i32 (joinQ (q) rh).2.2.2)
  gi_wp2
  clear hG kn f0 f1 f2 f3 y0 y1 y2 y3 kh
  generalize (((WA2.setCell ⟨B, 7, none⟩ (.int .i32 (joinQ (q) rh).1)).setCell ⟨B, 8, none⟩ (.int .i32 (joinQ (q) rh).2.1)).setCell ⟨B, 9, none⟩ (.int .i32 (joinQ (q) rh).2.2.1)).setCell ⟨B, 10, none⟩ (.int .i32 (joinQ (q) rh).2.2.2) = WAh at *
  have hG := gF
  have kn := kF
  have kh := kh'
  clear gF kF kh'
  go_wp2
  go_ret
  exact ⟨B, rfl, kn, hG⟩

set_option maxRecDepth 20000 in
set_option maxHeartbeats 4000000 in
theorem over_tn (i : Int) (q : Q4) (w : World) (hq : rgQ q = true) (dl dh : Nat) (el : dl ≤ 1000000) (eh : dh ≤ 1000000) (bl : Nat) (rl : Q4) (li : Int) (lq : Q4) (ll lh : Value) (kl : Bk w bl 80 (nodeL li lq ll lh rl dl)) (hrl : rgQ rl = true) (zh : dh = 0) :
    Calls Try.prog 46 #[ent i q, .pointer (some ⟨bl, 0, none⟩), .pointer none] w fun e w' => ∃ b, e = .returned (.pointer (some ⟨b, 0, none⟩)) ∧ Bk w' b 80 (nodeL i q (.pointer (some ⟨bl, 0, none⟩)) (.pointer none) (joinQ q rl) ((1 + max dl dh : Nat) : Int)) ∧ Gr w w' := by
  have DL : Hid (∀ W, Bk W bl 80 (nodeL li lq ll lh rl dl) → Calls Try.prog 26 #[.pointer (some ⟨bl, 0, none⟩)] W fun e w' => e = .returned (.int .i64 (dl : Int)) ∧ w' = W) := fun W k => by
    have c := k.at 11
    simp only [List.getElem?_cons_zero, List.getElem?_cons_succ] at c
    clear k
    generalize (dl : Int) = D at *
    go_enter Try.func26, Try.ntmps26
    go_wp2
    go_ret
    exact ⟨rfl, rfl⟩
  have DH : Hid (∀ W, Calls Try.prog 26 #[.pointer none] W fun e w' => e = .returned (.int .i64 (dh : Int)) ∧ w' = W) := fun W => by
    rw [zh]
    exact deep_any .nil W trivial
  have M := hid0 (max_w el eh)
  clear el eh zh
  generalize ((1 + max dl dh : Nat) : Int) = DD at *
  generalize (dl : Int) = Dl at *
  generalize (dh : Int) = Dh at *
  go_enter Try.func46, Try.ntmps46
  go_upto_region 2 with fail
  obtain ⟨W, hW, hG, kn⟩ := node_new w i q (.pointer (some ⟨bl, 0, none⟩)) (.pointer none)
  rw [← hW]
  clear hW
  have nl : Hid (bl ≠ w.heap.size + 1) := by have := kl.lt; unfold Hid; omega
  replace kl := kl.gr hG
  obtain ⟨B, hB⟩ : ∃ B, B = w.heap.size + 1 := ⟨_, rfl⟩
  rw [← hB] at kn nl ⊢
  have HB : Hid (w.heap.size ≤ B) := by unfold Hid; omega
  clear hB
  go_wp2_with fail
  refine (DL.out _ kl).mono ?_
  rintro e w1 ⟨rfl, hw1⟩
  cases hw1
  clear DL
  go_wp2_with fail
  refine (DH.out _).mono ?_
  rintro e w1 ⟨rfl, hw1⟩
  cases hw1
  clear DH
  have y0 := kn.at 11
  have f0 := kn.frozen 11
  simp only [List.getElem?_cons_zero, List.getElem?_cons_succ] at y0
  obtain ⟨MX, hMX⟩ : ∃ MX, MX = wrap64 (1 + (if Dl < Dh then Dh else Dl)) := ⟨_, rfl⟩
  have eM : MX = DD := hMX.trans M.out
  have kn' := kn.set 11 (.int .i64 DD)
  simp only [List.set_cons_zero, List.set_cons_succ] at kn'
  have hG' := hG.setCell (p := ⟨B, 11, none⟩) HB.out (.int .i64 DD)
  have kl' := kl.other (a := ⟨B, 11, none⟩) nl.out (.int .i64 DD)
  clear hMX eM
  go_upto_region 3 with fail
  rw [M.out]
  generalize (if Dl < Dh then Dh else Dl) = MM
  clear hG kn y0 f0 M kl
  generalize W.setCell ⟨B, 11, none⟩ (.int .i64 DD) = WA at *
  have hG := hG'
  have kn := kn'
  have kl := kl'
  clear hG' kn' kl'
  go_wp2_with fail

  obtain ⟨x0, x1, x2, x3⟩ : WA.cell? ⟨bl, 7, none⟩ = some (.int .i32 rl.1) ∧ WA.cell? ⟨bl, 8, none⟩ = some (.int .i32 rl.2.1) ∧ WA.cell? ⟨bl, 9, none⟩ = some (.int .i32 rl.2.2.1) ∧ WA.cell? ⟨bl, 10, none⟩ = some (.int .i32 rl.2.2.2) := ⟨kl.at 7, kl.at 8, kl.at 9, kl.at 10⟩
  obtain ⟨y0, y1, y2, y3⟩ : WA.cell? ⟨B, 7, none⟩ = some (.int .i32 (q).1) ∧ WA.cell? ⟨B, 8, none⟩ = some (.int .i32 (q).2.1) ∧ WA.cell? ⟨B, 9, none⟩ = some (.int .i32 (q).2.2.1) ∧ WA.cell? ⟨B, 10, none⟩ = some (.int .i32 (q).2.2.2) := ⟨kn.at 7, kn.at 8, kn.at 9, kn.at 10⟩
  have z0 := cell_gr x0
  have z1 := cell_gr x1
  have z2 := cell_gr x2
  have z3 := cell_gr x3
  have z4 := cell_gr y0
  have z5 := cell_gr y1
  have z6 := cell_gr y2
  have z7 := cell_gr y3
  clear x0 x1 x2 x3 y0 y1 y2 y3
  have QJ : Hid (∀ n os, Calls Try.prog 53 #[bv (q), bv rl] (grow (WA.drewN n) os) fun e w' => e = .returned (bv (joinQ (q) rl)) ∧ ∃ p : GrownBy, w' = grow (WA.drewN p.n) p.os) := fun n os => Calls.grown_of (join_right _ _ _ _ _ _ _ _ (hq) hrl _)
  dsimp only [bv, bx] at QJ
  obtain ⟨nF, hnF⟩ : ∃ nF : Nat, 5 ≤ nF := ⟨5, by omega⟩
  refine (wpIn_wide (n := nF)).1 ?_
  refine region_head_grown 12 (by kernel_rfl) (by kernel_rfl) (by simp) (by kernel_rfl) ?_
  simp only [List.take_succ_cons, List.take_zero, List.drop_succ_cons, List.drop_zero]
  repeat (gi_big_quiet_step (fail))
  refine BigFrame.wpQuietIn_want (by intro w _ f hf; exact trivial) (by rfl) ?_
  intro K hK
  gi_big_quiet_op
  gi_big_quiet_call (exact ⟨fun _ => by omega, callsIn_wide.2 (QJ.out _ _)⟩)
  repeat (gi_big_quiet_step (fail))
  refine wpQuietIn_nil ?_
  intro _ hw'
  obtain ⟨⟨dq, osq⟩, hw''⟩ := hw'
  subst hw''
  have g : Gr WA (grow (WA.drewN dq) osq) := ⟨dq, osq, rfl⟩
  replace hG := hG.trans g
  replace kn := kn.gr g
  replace kl := kl.gr g
  clear z0 z1 z2 z3 z4 z5 z6 z7 QJ g
  generalize grow (WA.drewN dq) osq = WA2 at *
  obtain ⟨y0, y1, y2, y3⟩ : WA2.cell? ⟨B, 7, none⟩ = some (.int .i32 (q).1) ∧ WA2.cell? ⟨B, 8, none⟩ = some (.int .i32 (q).2.1) ∧ WA2.cell? ⟨B, 9, none⟩ = some (.int .i32 (q).2.2.1) ∧ WA2.cell? ⟨B, 10, none⟩ = some (.int .i32 (q).2.2.2) := ⟨kn.at 7, kn.at 8, kn.at 9, kn.at 10⟩
  have f0 := kn.frozen 7
  have f1 := kn.frozen 8
  have f2 := kn.frozen 9
  have f3 := kn.frozen 10
  have gF := (((hG.setCell (p := ⟨B, 7, none⟩) HB.out (.int .i32 (joinQ (q) rl).1)).setCell (p := ⟨B, 8, none⟩) HB.out (.int .i32 (joinQ (q) rl).2.1)).setCell (p := ⟨B, 9, none⟩) HB.out (.int .i32 (joinQ (q) rl).2.2.1)).setCell (p := ⟨B, 10, none⟩) HB.out (.int .i32 (joinQ (q) rl).2.2.2)
  have kF := set_ar (r' := joinQ (q) rl) kn
  have kl' := (((kl.other (a := ⟨B, 7, none⟩) nl.out (.int .i32 (joinQ (q) rl).1)).other (a := ⟨B, 8, none⟩) nl.out (.int .i32 (joinQ (q) rl).2.1)).other (a := ⟨B, 9, none⟩) nl.out (.int .i32 (joinQ (q) rl).2.2.1)).other (a := ⟨B, 10, none⟩) nl.out (.int .i32 (joinQ (q) rl).2.2.2)
  gi_wp2
  clear hG kn f0 f1 f2 f3 y0 y1 y2 y3 kl
  generalize (((WA2.setCell ⟨B, 7, none⟩ (.int .i32 (joinQ (q) rl).1)).setCell ⟨B, 8, none⟩ (.int .i32 (joinQ (q) rl).2.1)).setCell ⟨B, 9, none⟩ (.int .i32 (joinQ (q) rl).2.2.1)).setCell ⟨B, 10, none⟩ (.int .i32 (joinQ (q) rl).2.2.2) = WAl at *
  have hG := gF
  have kn := kF
  have kl := kl'
  clear gF kF kl'
  go_wp2
  go_ret
  exact ⟨B, rfl, kn, hG⟩

set_option maxRecDepth 20000 in
set_option maxHeartbeats 4000000 in
theorem over_tt (i : Int) (q : Q4) (w : World) (hq : rgQ q = true) (dl dh : Nat) (el : dl ≤ 1000000) (eh : dh ≤ 1000000) (bl : Nat) (rl : Q4) (li : Int) (lq : Q4) (ll lh : Value) (kl : Bk w bl 80 (nodeL li lq ll lh rl dl)) (hrl : rgQ rl = true) (bh : Nat) (rh : Q4) (hi : Int) (hq_ : Q4) (hl hh : Value) (kh : Bk w bh 80 (nodeL hi hq_ hl hh rh dh)) (hrh : rgQ rh = true) :
    Calls Try.prog 46 #[ent i q, .pointer (some ⟨bl, 0, none⟩), .pointer (some ⟨bh, 0, none⟩)] w fun e w' => ∃ b, e = .returned (.pointer (some ⟨b, 0, none⟩)) ∧ Bk w' b 80 (nodeL i q (.pointer (some ⟨bl, 0, none⟩)) (.pointer (some ⟨bh, 0, none⟩)) (joinQ (joinQ q rl) rh) ((1 + max dl dh : Nat) : Int)) ∧ Gr w w' := by
  have DL : Hid (∀ W, Bk W bl 80 (nodeL li lq ll lh rl dl) → Calls Try.prog 26 #[.pointer (some ⟨bl, 0, none⟩)] W fun e w' => e = .returned (.int .i64 (dl : Int)) ∧ w' = W) := fun W k => by
    have c := k.at 11
    simp only [List.getElem?_cons_zero, List.getElem?_cons_succ] at c
    clear k
    generalize (dl : Int) = D at *
    go_enter Try.func26, Try.ntmps26
    go_wp2
    go_ret
    exact ⟨rfl, rfl⟩
  have DH : Hid (∀ W, Bk W bh 80 (nodeL hi hq_ hl hh rh dh) → Calls Try.prog 26 #[.pointer (some ⟨bh, 0, none⟩)] W fun e w' => e = .returned (.int .i64 (dh : Int)) ∧ w' = W) := fun W k => by
    have c := k.at 11
    simp only [List.getElem?_cons_zero, List.getElem?_cons_succ] at c
    clear k
    generalize (dh : Int) = D at *
    go_enter Try.func26, Try.ntmps26
    go_wp2
    go_ret
    exact ⟨rfl, rfl⟩
  have M := hid0 (max_w el eh)
  clear el eh
  generalize ((1 + max dl dh : Nat) : Int) = DD at *
  generalize (dl : Int) = Dl at *
  generalize (dh : Int) = Dh at *
  go_enter Try.func46, Try.ntmps46
  go_upto_region 2 with fail
  obtain ⟨W, hW, hG, kn⟩ := node_new w i q (.pointer (some ⟨bl, 0, none⟩)) (.pointer (some ⟨bh, 0, none⟩))
  rw [← hW]
  clear hW
  have nl : Hid (bl ≠ w.heap.size + 1) := by have := kl.lt; unfold Hid; omega
  have nh : Hid (bh ≠ w.heap.size + 1) := by have := kh.lt; unfold Hid; omega
  replace kl := kl.gr hG
  replace kh := kh.gr hG
  obtain ⟨B, hB⟩ : ∃ B, B = w.heap.size + 1 := ⟨_, rfl⟩
  rw [← hB] at kn nl nh ⊢
  have HB : Hid (w.heap.size ≤ B) := by unfold Hid; omega
  clear hB
  go_wp2_with fail
  refine (DL.out _ kl).mono ?_
  rintro e w1 ⟨rfl, hw1⟩
  cases hw1
  clear DL
  go_wp2_with fail
  refine (DH.out _ kh).mono ?_
  rintro e w1 ⟨rfl, hw1⟩
  cases hw1
  clear DH
  have y0 := kn.at 11
  have f0 := kn.frozen 11
  simp only [List.getElem?_cons_zero, List.getElem?_cons_succ] at y0
  obtain ⟨MX, hMX⟩ : ∃ MX, MX = wrap64 (1 + (if Dl < Dh then Dh else Dl)) := ⟨_, rfl⟩
  have eM : MX = DD := hMX.trans M.out
  have kn' := kn.set 11 (.int .i64 DD)
  simp only [List.set_cons_zero, List.set_cons_succ] at kn'
  have hG' := hG.setCell (p := ⟨B, 11, none⟩) HB.out (.int .i64 DD)
  have kl' := kl.other (a := ⟨B, 11, none⟩) nl.out (.int .i64 DD)
  have kh' := kh.other (a := ⟨B, 11, none⟩) nh.out (.int .i64 DD)
  clear hMX eM
  go_upto_region 3 with fail
  rw [M.out]
  generalize (if Dl < Dh then Dh else Dl) = MM
  clear hG kn y0 f0 M kl kh
  generalize W.setCell ⟨B, 11, none⟩ (.int .i64 DD) = WA at *
  have hG := hG'
  have kn := kn'
  have kl := kl'
  have kh := kh'
  clear hG' kn' kl' kh'
  go_wp2_with fail

  obtain ⟨x0, x1, x2, x3⟩ : WA.cell? ⟨bl, 7, none⟩ = some (.int .i32 rl.1) ∧ WA.cell? ⟨bl, 8, none⟩ = some (.int .i32 rl.2.1) ∧ WA.cell? ⟨bl, 9, none⟩ = some (.int .i32 rl.2.2.1) ∧ WA.cell? ⟨bl, 10, none⟩ = some (.int .i32 rl.2.2.2) := ⟨kl.at 7, kl.at 8, kl.at 9, kl.at 10⟩
  obtain ⟨y0, y1, y2, y3⟩ : WA.cell? ⟨B, 7, none⟩ = some (.int .i32 (q).1) ∧ WA.cell? ⟨B, 8, none⟩ = some (.int .i32 (q).2.1) ∧ WA.cell? ⟨B, 9, none⟩ = some (.int .i32 (q).2.2.1) ∧ WA.cell? ⟨B, 10, none⟩ = some (.int .i32 (q).2.2.2) := ⟨kn.at 7, kn.at 8, kn.at 9, kn.at 10⟩
  have z0 := cell_gr x0
  have z1 := cell_gr x1
  have z2 := cell_gr x2
  have z3 := cell_gr x3
  have z4 := cell_gr y0
  have z5 := cell_gr y1
  have z6 := cell_gr y2
  have z7 := cell_gr y3
  clear x0 x1 x2 x3 y0 y1 y2 y3
  have QJ : Hid (∀ n os, Calls Try.prog 53 #[bv (q), bv rl] (grow (WA.drewN n) os) fun e w' => e = .returned (bv (joinQ (q) rl)) ∧ ∃ p : GrownBy, w' = grow (WA.drewN p.n) p.os) := fun n os => Calls.grown_of (join_right _ _ _ _ _ _ _ _ (hq) hrl _)
  dsimp only [bv, bx] at QJ
  obtain ⟨nF, hnF⟩ : ∃ nF : Nat, 5 ≤ nF := ⟨5, by omega⟩
  refine (wpIn_wide (n := nF)).1 ?_
  refine region_head_grown 12 (by kernel_rfl) (by kernel_rfl) (by simp) (by kernel_rfl) ?_
  simp only [List.take_succ_cons, List.take_zero, List.drop_succ_cons, List.drop_zero]
  repeat (gi_big_quiet_step (fail))
  refine BigFrame.wpQuietIn_want (by intro w _ f hf; exact trivial) (by rfl) ?_
  intro K hK
  gi_big_quiet_op
  gi_big_quiet_call (exact ⟨fun _ => by omega, callsIn_wide.2 (QJ.out _ _)⟩)
  repeat (gi_big_quiet_step (fail))
  refine wpQuietIn_nil ?_
  intro _ hw'
  obtain ⟨⟨dq, osq⟩, hw''⟩ := hw'
  subst hw''
  have g : Gr WA (grow (WA.drewN dq) osq) := ⟨dq, osq, rfl⟩
  replace hG := hG.trans g
  replace kn := kn.gr g
  replace kl := kl.gr g
  replace kh := kh.gr g
  clear z0 z1 z2 z3 z4 z5 z6 z7 QJ g
  generalize grow (WA.drewN dq) osq = WA2 at *
  obtain ⟨y0, y1, y2, y3⟩ : WA2.cell? ⟨B, 7, none⟩ = some (.int .i32 (q).1) ∧ WA2.cell? ⟨B, 8, none⟩ = some (.int .i32 (q).2.1) ∧ WA2.cell? ⟨B, 9, none⟩ = some (.int .i32 (q).2.2.1) ∧ WA2.cell? ⟨B, 10, none⟩ = some (.int .i32 (q).2.2.2) := ⟨kn.at 7, kn.at 8, kn.at 9, kn.at 10⟩
  have f0 := kn.frozen 7
  have f1 := kn.frozen 8
  have f2 := kn.frozen 9
  have f3 := kn.frozen 10
  have gF := (((hG.setCell (p := ⟨B, 7, none⟩) HB.out (.int .i32 (joinQ (q) rl).1)).setCell (p := ⟨B, 8, none⟩) HB.out (.int .i32 (joinQ (q) rl).2.1)).setCell (p := ⟨B, 9, none⟩) HB.out (.int .i32 (joinQ (q) rl).2.2.1)).setCell (p := ⟨B, 10, none⟩) HB.out (.int .i32 (joinQ (q) rl).2.2.2)
  have kF := set_ar (r' := joinQ (q) rl) kn
  have kl' := (((kl.other (a := ⟨B, 7, none⟩) nl.out (.int .i32 (joinQ (q) rl).1)).other (a := ⟨B, 8, none⟩) nl.out (.int .i32 (joinQ (q) rl).2.1)).other (a := ⟨B, 9, none⟩) nl.out (.int .i32 (joinQ (q) rl).2.2.1)).other (a := ⟨B, 10, none⟩) nl.out (.int .i32 (joinQ (q) rl).2.2.2)
  have kh' := (((kh.other (a := ⟨B, 7, none⟩) nh.out (.int .i32 (joinQ (q) rl).1)).other (a := ⟨B, 8, none⟩) nh.out (.int .i32 (joinQ (q) rl).2.1)).other (a := ⟨B, 9, none⟩) nh.out (.int .i32 (joinQ (q) rl).2.2.1)).other (a := ⟨B, 10, none⟩) nh.out (.int .i32 (joinQ (q) rl).2.2.2)
  gi_wp2
  clear hG kn f0 f1 f2 f3 y0 y1 y2 y3 kl kh
  generalize (((WA2.setCell ⟨B, 7, none⟩ (.int .i32 (joinQ (q) rl).1)).setCell ⟨B, 8, none⟩ (.int .i32 (joinQ (q) rl).2.1)).setCell ⟨B, 9, none⟩ (.int .i32 (joinQ (q) rl).2.2.1)).setCell ⟨B, 10, none⟩ (.int .i32 (joinQ (q) rl).2.2.2) = WAl at *
  have hG := gF
  have kn := kF
  have kl := kl'
  have kh := kh'
  clear gF kF kl' kh'
  go_wp2_with fail

  obtain ⟨x0, x1, x2, x3⟩ : WAl.cell? ⟨bh, 7, none⟩ = some (.int .i32 rh.1) ∧ WAl.cell? ⟨bh, 8, none⟩ = some (.int .i32 rh.2.1) ∧ WAl.cell? ⟨bh, 9, none⟩ = some (.int .i32 rh.2.2.1) ∧ WAl.cell? ⟨bh, 10, none⟩ = some (.int .i32 rh.2.2.2) := ⟨kh.at 7, kh.at 8, kh.at 9, kh.at 10⟩
  obtain ⟨y0, y1, y2, y3⟩ : WAl.cell? ⟨B, 7, none⟩ = some (.int .i32 (joinQ q rl).1) ∧ WAl.cell? ⟨B, 8, none⟩ = some (.int .i32 (joinQ q rl).2.1) ∧ WAl.cell? ⟨B, 9, none⟩ = some (.int .i32 (joinQ q rl).2.2.1) ∧ WAl.cell? ⟨B, 10, none⟩ = some (.int .i32 (joinQ q rl).2.2.2) := ⟨kn.at 7, kn.at 8, kn.at 9, kn.at 10⟩
  have z0 := cell_gr x0
  have z1 := cell_gr x1
  have z2 := cell_gr x2
  have z3 := cell_gr x3
  have z4 := cell_gr y0
  have z5 := cell_gr y1
  have z6 := cell_gr y2
  have z7 := cell_gr y3
  clear x0 x1 x2 x3 y0 y1 y2 y3
  have QJ : Hid (∀ n os, Calls Try.prog 53 #[bv (joinQ q rl), bv rh] (grow (WAl.drewN n) os) fun e w' => e = .returned (bv (joinQ (joinQ q rl) rh)) ∧ ∃ p : GrownBy, w' = grow (WAl.drewN p.n) p.os) := fun n os => Calls.grown_of (join_right _ _ _ _ _ _ _ _ (PT.rg_join hq) hrh _)
  dsimp only [bv, bx] at QJ
  obtain ⟨nF, hnF⟩ : ∃ nF : Nat, 5 ≤ nF := ⟨5, by omega⟩
  refine (wpIn_wide (n := nF)).1 ?_
  refine region_head_grown 12 (by kernel_rfl) (by kernel_rfl) (by simp) (by kernel_rfl) ?_
  simp only [List.take_succ_cons, List.take_zero, List.drop_succ_cons, List.drop_zero]
  repeat (gi_big_quiet_step (fail))
  refine BigFrame.wpQuietIn_want (by intro w _ f hf; exact trivial) (by rfl) ?_
  intro K hK
  gi_big_quiet_op
  gi_big_quiet_call (exact ⟨fun _ => by omega, callsIn_wide.2 (QJ.out _ _)⟩)
  repeat (gi_big_quiet_step (fail))
  refine wpQuietIn_nil ?_
  intro _ hw'
  obtain ⟨⟨dq, osq⟩, hw''⟩ := hw'
  subst hw''
  have g : Gr WAl (grow (WAl.drewN dq) osq) := ⟨dq, osq, rfl⟩
  replace hG := hG.trans g
  replace kn := kn.gr g
  replace kl := kl.gr g
  replace kh := kh.gr g
  clear z0 z1 z2 z3 z4 z5 z6 z7 QJ g
  generalize grow (WAl.drewN dq) osq = WAl2 at *
  obtain ⟨y0, y1, y2, y3⟩ : WAl2.cell? ⟨B, 7, none⟩ = some (.int .i32 (joinQ q rl).1) ∧ WAl2.cell? ⟨B, 8, none⟩ = some (.int .i32 (joinQ q rl).2.1) ∧ WAl2.cell? ⟨B, 9, none⟩ = some (.int .i32 (joinQ q rl).2.2.1) ∧ WAl2.cell? ⟨B, 10, none⟩ = some (.int .i32 (joinQ q rl).2.2.2) := ⟨kn.at 7, kn.at 8, kn.at 9, kn.at 10⟩
  have f0 := kn.frozen 7
  have f1 := kn.frozen 8
  have f2 := kn.frozen 9
  have f3 := kn.frozen 10
  have gF := (((hG.setCell (p := ⟨B, 7, none⟩) HB.out (.int .i32 (joinQ (joinQ q rl) rh).1)).setCell (p := ⟨B, 8, none⟩) HB.out (.int .i32 (joinQ (joinQ q rl) rh).2.1)).setCell (p := ⟨B, 9, none⟩) HB.out (.int .i32 (joinQ (joinQ q rl) rh).2.2.1)).setCell (p := ⟨B, 10, none⟩) HB.out (.int .i32 (joinQ (joinQ q rl) rh).2.2.2)
  have kF := set_ar (r' := joinQ (joinQ q rl) rh) kn
  have kl' := (((kl.other (a := ⟨B, 7, none⟩) nl.out (.int .i32 (joinQ (joinQ q rl) rh).1)).other (a := ⟨B, 8, none⟩) nl.out (.int .i32 (joinQ (joinQ q rl) rh).2.1)).other (a := ⟨B, 9, none⟩) nl.out (.int .i32 (joinQ (joinQ q rl) rh).2.2.1)).other (a := ⟨B, 10, none⟩) nl.out (.int .i32 (joinQ (joinQ q rl) rh).2.2.2)
  have kh' := (((kh.other (a := ⟨B, 7, none⟩) nh.out (.int .i32 (joinQ (joinQ q rl) rh).1)).other (a := ⟨B, 8, none⟩) nh.out (.int .i32 (joinQ (joinQ q rl) rh).2.1)).other (a := ⟨B, 9, none⟩) nh.out (.int .i32 (joinQ (joinQ q rl) rh).2.2.1)).other (a := ⟨B, 10, none⟩) nh.out (.int .i32 (joinQ (joinQ q rl) rh).2.2.2)
  gi_wp2
  clear hG kn f0 f1 f2 f3 y0 y1 y2 y3 kl kh
  generalize (((WAl2.setCell ⟨B, 7, none⟩ (.int .i32 (joinQ (joinQ q rl) rh).1)).setCell ⟨B, 8, none⟩ (.int .i32 (joinQ (joinQ q rl) rh).2.1)).setCell ⟨B, 9, none⟩ (.int .i32 (joinQ (joinQ q rl) rh).2.2.1)).setCell ⟨B, 10, none⟩ (.int .i32 (joinQ (joinQ q rl) rh).2.2.2) = WAlh at *
  have hG := gF
  have kn := kF
  have kl := kl'
  have kh := kh'
  clear gF kF kl' kh'
  go_wp2
  go_ret
  exact ⟨B, rfl, kn, hG⟩

theorem over_any (i : Int) (q : Q4) (l h : At) (w : World) (hl : TrAt w l) (hh : TrAt w h) (hq : rgQ q = true) (rl : PT.Rg l.er) (rh : PT.Rg h.er) (dl : l.er.dep ≤ 1000000) (dh : h.er.dep ≤ 1000000) :
    Calls Try.prog 46 #[ent i q, l.ptr, h.ptr] w fun e w' => ∃ b, e = .returned (At.nd b i q l h).ptr ∧ TrAt w' (.nd b i q l h) ∧ Gr w w' := by
  have fin : ∀ {e : Ending} {w' : World} (r : Q4), (PT.nd i q l.er h.er).ar = r → (∃ b, e = .returned (.pointer (some ⟨b, 0, none⟩)) ∧ Bk w' b 80 (nodeL i q l.ptr h.ptr r ((1 + max l.er.dep h.er.dep : Nat) : Int)) ∧ Gr w w') → ∃ b, e = .returned (At.nd b i q l h).ptr ∧ TrAt w' (.nd b i q l h) ∧ Gr w w' := by
    rintro e w' r hr ⟨b, h1, h2, h3⟩
    refine ⟨b, h1, ⟨?_, hl.gr h3, hh.gr h3⟩, h3⟩
    rw [hr]
    exact h2
  cases l using At.cas with
  | nil =>
    cases h using At.cas with
    | nil => exact (over_nn i q w hq 0 0 (by omega) (by omega) rfl rfl).mono (fun e w' k => fin q rfl k)
    | nd bh ih qh lh hh' => exact (over_nt i q w hq 0 _ (by omega) dh bh _ _ _ _ _ hh.1 (PT.ar_rg rh rfl) rfl).mono (fun e w' k => fin _ rfl k)
  | nd bl il ql ll hl' =>
    cases h using At.cas with
    | nil => exact (over_tn i q w hq _ 0 dl (by omega) bl _ _ _ _ _ hl.1 (PT.ar_rg rl rfl) rfl).mono (fun e w' k => fin _ rfl k)
    | nd bh ih qh lh hh' => exact (over_tt i q w hq _ _ dl dh bl _ _ _ _ _ hl.1 (PT.ar_rg rl rfl) bh _ _ _ _ _ hh.1 (PT.ar_rg rh rfl)).mono (fun e w' k => fin _ rfl k)

end Go.Proofs.Ytpikhdfndnpidaa
