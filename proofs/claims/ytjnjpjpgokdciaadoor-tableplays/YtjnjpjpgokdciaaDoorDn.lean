/- The law's done: one step played on a table and on the document's own. -/
import Derived.Test.YtjnjpjpgokdciaaDoorDu
import Derived.Shelf.SlSortCmp.QuietGrown
set_option linter.unusedSimpArgs false
set_option linter.unusedVariables false
namespace Go.Proofs.YtjnjpjpgokdciaaDoor
open Go.RowKit Go.Sort Go.Shelf
attribute [local go_sem] Oper.semAt_some wide_fn
attribute [local simp] wide_fn

abbrev stV (d : Int) (o : Bool) (id n : Int) (a : Bool) : Value := .agg #[.int .i64 d, .bool o, .int .u32 id, .int .i64 n, .bool a]
abbrev stL (d : Int) (o : Bool) (id n : Int) (a : Bool) : List Value := [.int .i64 d, .bool o, .int .u32 id, .int .i64 n, .bool a]
/-- A table beside the document's own. -/
structure Pr (B : Nat) (w : World) (t r room : Nat) (v vr : Value) (L : List En) : Prop where
  tab : TabIs B w t room v L
  ref : RTab B w r room vr L
  r0 : B ≤ r
abbrev qP (t r : Nat) (v vr : Value) : Nat → Prop := fun k => tP t v k ∨ tP r vr k
def DoneR (B t r room : Nat) (v vr : Value) (w : World) (e : Ending) (w' : World) : Prop :=
  e = .returned (.bool true) ∧ ∃ v' vr' L', Pr B w' t r room v' vr' L' ∧ Chg (qP t r v vr) w w' ∧ NewRow w v v' ∧ NewRow w vr vr'
section
variable {B : Nat} {w w' : World} {t r room : Nat} {v vr : Value} {L : List En}
theorem Pr.gr (h : Pr B w t r room v vr L) (k : Gr w w') : Pr B w' t r room v vr L := ⟨h.tab.gr k, h.ref.gr k, h.r0⟩
/-- The table's turn leaves the document's own as it is. -/
theorem Pr.rest {v0 : Value} {L0 : List En} (h : TabIs B w t room v0 L0) (k : RTab B w r room vr L) (c : Chg (tP t v0) w w') : RTab B w' r room vr L :=
  k.chg c (fun e => by
    rcases e with e | e
    · have := bk_ty k.blk (e ▸ h.blk); cases this
    · obtain ⟨_, _, cur, kc⟩ := h.sl.lt e; have := bk_ty k.blk kc; cases this)
    (fun g e1 e => by
      rcases e with e | e
      · have := own_ty k.own e1 (e ▸ h.blk); cases this
      · obtain ⟨_, _, cur, kc⟩ := h.sl.lt e; have := own_ty k.own e1 kc; cases this)
theorem Pr.back {v0 : Value} {L0 : List En} (h : TabIs B w t room v L) (k : RTab B w r room v0 L0) (c : Chg (tP r v0) w w') : TabIs B w' t room v L :=
  h.chg c (fun e => by
    rcases e with e | e
    · have := bk_ty h.blk (e ▸ k.blk); cases this
    · have := own_ty k.own e h.blk; cases this)
    (fun g e1 e => by
      obtain ⟨_, _, cur, kc⟩ := h.sl.lt e1
      rcases e with e | e
      · have := bk_ty kc (e ▸ k.blk); cases this
      · have := own_ty k.own e kc; cases this)
    (fun x hx e => by
      rcases e with e | e
      · have := bk_ty (h.ents x hx) (e ▸ k.blk); cases this
      · have := own_ty k.own e (h.ents x hx); cases this)
theorem stk {b : Nat} {l : List Value} (kx : Bk w b 41 l) (h : TabIs B w t room v L) (c : Chg (tP t v) w w') : Bk w' b 41 l :=
  kx.chg c (fun e => by
    rcases e with e | e
    · have := bk_ty kx (e ▸ h.blk); cases this
    · obtain ⟨_, _, cur, kc⟩ := h.sl.lt e; have := bk_ty kx kc; cases this)
theorem stw {b : Nat} {l : List Value} (kx : Bk w b 32 l) (h : TabIs B w t room v L) (c : Chg (tP t v) w w') : Bk w' b 32 l :=
  kx.chg c (fun e => by
    rcases e with e | e
    · have := bk_ty kx (e ▸ h.blk); cases this
    · obtain ⟨_, _, cur, kc⟩ := h.sl.lt e; have := bk_ty kx kc; cases this)
theorem stv {b : Nat} {l : List Value} (kx : Bk w b 32 l) (h : RTab B w r room vr L) (c : Chg (tP r vr) w w') : Bk w' b 32 l :=
  kx.chg c (fun e => by
    rcases e with e | e
    · have := bk_ty kx (e ▸ h.blk); cases this
    · have := own_ty h.own e kx; cases this)
theorem set2 {bx Y : Nat} {l m : List Value} {tt uu : TypeId} (k : Bk w bx tt l) (kv : Bk w Y uu m) (hu : tt ≠ uu) (x y : Value) : Bk ((w.setCell ⟨Y, 0, none⟩ x).setCell ⟨Y, 1, none⟩ y) bx tt l := by
  have hne : bx ≠ Y := fun e => by subst e; exact hu (bk_ty k kv)
  exact (k.other (a := ⟨Y, 0, none⟩) hne x).other (a := ⟨Y, 1, none⟩) hne y
/-- What stands behind the table's turn, its answer in a block Y of the call's own. -/
structure Mid (B : Nat) (w W : World) (t r room : Nat) (v v' vr : Value) (L L' : List En) (Y : Nat) (was : Int) (bx : Nat) (l : List Value) : Prop where
  box : Bk W bx 41 l
  tab : TabIs B W t room v' L'
  ref : RTab B W r room vr L
  ans : Bk W Y 32 (vL was)
  chg : Chg (tP t v) w W
  new : NewRow w v v'
theorem Mid.of_new {v' : Value} {L' : List En} {V v2 : World} {was : Int} {bx : Nat} {l : List Value} (kb : Bk v2 bx 41 l) (T : TabIs B v2 t room v' L') (R : RTab B v2 r room vr L) (C : Chg (tP t v) V v2) (N : NewRow V v v') (g : Gr w V) : Mid B w (v2.alloc (.cells #[.int .i64 was, .string (sB was)] 32)) t r room v v' vr L L' v2.heap.size was bx l := by
  have ga := (Gr.refl v2).alloc (.cells #[.int .i64 was, .string (sB was)] 32)
  refine ⟨kb.gr ga, T.gr ga, R.gr ga, Bk.new v2 32 (vL was), ((Chg.of_gr g).trans C).gr ga, fun k e => (N k e).imp (fun h => h) fun h => Nat.le_trans g.size h⟩
theorem Mid.of_set {v' : Value} {L' : List En} {V v2 : World} {was : Int} {Y : Nat} {m : List Value} {bx : Nat} {l : List Value} (kb : Bk v2 bx 41 l) (T : TabIs B v2 t room v' L') (R : RTab B v2 r room vr L) (C : Chg (tP t v) V v2) (N : NewRow V v v') (g : Gr w V) (k : Bk v2 Y 32 m) (hm : m.length = 2) (hY : w.heap.size ≤ Y) :
    Mid B w ((v2.setCell ⟨Y, 0, none⟩ (.int .i64 was)).setCell ⟨Y, 1, none⟩ (.string (sB was))) t r room v v' vr L L' Y was bx l := by
  have c : Chg (fun j => j = Y) v2 ((v2.setCell ⟨Y, 0, none⟩ (.int .i64 was)).setCell ⟨Y, 1, none⟩ (.string (sB was))) := (Chg.set (p := fun j => j = Y) v2 (a := ⟨Y, 0, none⟩) rfl _).trans (Chg.set (p := fun j => j = Y) _ (a := ⟨Y, 1, none⟩) rfl _)
  refine ⟨set2 kb k (by decide) _ _, ?_, ?_, ?_, ?_, fun k e => (N k e).imp (fun h => h) fun h => Nat.le_trans g.size h⟩
  · refine T.chg c (fun e => ?_) (fun g' e1 e => ?_) (fun x hx e => ?_)
    · have := bk_ty T.blk (e ▸ k); cases this
    · obtain ⟨_, _, cur, kc⟩ := T.sl.lt e1; have := bk_ty kc (e ▸ k); cases this
    · have := bk_ty (T.ents x hx) (e ▸ k); cases this
  · refine R.chg c (fun e => ?_) (fun g' e1 e => ?_)
    · have := bk_ty R.blk (e ▸ k); cases this
    · have := own_ty R.own e1 (e ▸ k); cases this
  · match m, hm with
    | [a, b], _ => exact (k.set 0 _).set 1 _
  · exact ((Chg.of_gr g).trans C).next c (fun j hj e => by omega)
set_option maxRecDepth 100000 in
set_option maxHeartbeats 2000000 in
theorem done_put (h : Pr B w t r room v vr L) (hB : B ≤ w.heap.size) (o a : Bool) (id n : Int) : Calls Tryd.prog 11 #[pT t, pT r, stV 0 o id n a] w (DoneR B t r room v vr w) := by
  have kx := Bk.new w 41 (stL 0 o id n a)
  have gx := (Gr.refl w).alloc (.cells (stL 0 o id n a).toArray 41)
  have H := h.gr gx
  have HS : B ≤ (w.alloc (.cells (stL 0 o id n a).toArray 41)).heap.size := Nat.le_trans hB gx.size
  clear h
  go_enter Tryd.func11, Tryd.ntmps11
  go_upto_region 3 with fail
  generalize hbx : w.heap.size = bx at *
  have EB := hid0 hbx
  clear hbx
  generalize w.alloc _ = A at *
  have gD := (Gr.refl A).drew
  have x2 : ∀ V, Gr A V → V.cell? ⟨bx, 2, none⟩ = some (.int .u32 id) := fun V g => (kx.gr g).at 2
  have x3 : ∀ V, Gr A V → V.cell? ⟨bx, 3, none⟩ = some (.int .i64 n) := fun V g => (kx.gr g).at 3
  have HH := hid0 H
  have HA := hid0 H.tab.asc
  have HL : L.length ≤ 65536 := Nat.le_trans H.tab.len H.tab.most
  have HR0 := hid0 H.r0
  have KX := hid0 kx
  have GX := hid0 gx
  have HBB := hid0 hB
  have PU : Hid (∀ V, Gr A V → Calls Tryd.prog 15 #[pT t, .int .u32 id, vV n] V fun e w' => ∃ was er v' L', e = .returned (.tuple #[vV was, .int .i64 er]) ∧ Hid (TabIs B w' t room v' L') ∧ Hid (RTab B w' r room vr L) ∧ Hid (Chg (tP t v) V w') ∧ Hid (Bk w' bx 41 (stL 0 o id n a)) ∧ Hid (NewRow V v v') ∧ Hid (PutD L room id n was er L') ∧ Hid (∀ Y, Bk V Y 32 (vL 0) → Bk w' Y 32 (vL 0))) := fun V g => by
    have hT := H.tab.gr g
    refine (put_u hT (Nat.le_trans HS g.size) id n).mono ?_
    rintro e w' ⟨was, er, v', L', rfl, h1, h2, h3, h4⟩
    exact ⟨was, er, v', L', rfl, h1, Pr.rest hT (H.ref.gr g) h2, h2, stk (kx.gr g) hT h2, h3, h4, fun Y hY => stw hY hT h2⟩
  clear kx gx H hB
  go_region_held3 (fun V => V.cell? ⟨bx, 2, none⟩ = some (.int .u32 id) ∧ V.cell? ⟨bx, 3, none⟩ = some (.int .i64 n))
    (first
      | exact ⟨x2 _ gD, x3 _ gD⟩
      | exact ⟨x2 _ ((Gr.refl A).alloc _).drew, x3 _ ((Gr.refl A).alloc _).drew⟩
      | exact ⟨x2 _ ((gD.trans g1).alloc _), x3 _ ((gD.trans g1).alloc _)⟩
      | exact ⟨x2 _ (gD.trans g1), x3 _ (gD.trans g1)⟩
      | exact ⟨k2.out.at 2, k2.out.at 3⟩
      | exact ⟨(k2.out.alloc _).at 2, (k2.out.alloc _).at 3⟩
      | exact ⟨(set2 k2.out kv.out (by decide) _ _).at 2, (set2 k2.out kv.out (by decide) _ _).at 3⟩
      | assumption)
    (first
      | (go_at_call 15; refine (PU.out v1 (gD.trans g1)).mono ?_; rintro e v2 ⟨was, er, v', L', rfl, T2, R2, C2, k2, N2, D2, KV⟩; have q2 := k2.out.at 2; have q3 := k2.out.at 3)
      | (go_at_call 15; refine (PU.out v1 (((Gr.refl A).alloc _).drew.trans g1)).mono ?_; rintro e v2 ⟨was, er, v', L', rfl, T2, R2, C2, k2, N2, D2, KV⟩; have q2 := k2.out.at 2; have q3 := k2.out.at 3; have kv := hid0 (KV.out A.heap.size ((Bk.new A 32 (vL 0)).gr ((Gr.refl _).drew.trans g1))); have y0 := (vcells kv.out).1; have y1 := (vcells kv.out).2; have z0 := kv.out.frozen 0; have z1 := kv.out.frozen 1)
      | (go_at_call 15; refine (PU.out _ ((gD.trans g1).alloc _)).mono ?_; rintro e v2 ⟨was, er, v', L', rfl, T2, R2, C2, k2, N2, D2, KV⟩; have q2 := k2.out.at 2; have q3 := k2.out.at 3; have kv := hid0 (KV.out v1.heap.size (Bk.new v1 32 (vL 0))); have y0 := (vcells kv.out).1; have y1 := (vcells kv.out).2; have z0 := kv.out.frozen 0; have z1 := kv.out.frozen 1)
      | (go_at_call 16; refine (of_any n _).mono ?_; rintro e v1 ⟨rfl, g1⟩; have q : v1.cell? ⟨bx, 2, none⟩ = some (.int .u32 id) ∧ v1.cell? ⟨bx, 3, none⟩ = some (.int .i64 n) := by (first | exact ⟨x2 _ (gD.trans g1), x3 _ (gD.trans g1)⟩ | exact ⟨x2 _ (((Gr.refl A).alloc _).drew.trans g1), x3 _ (((Gr.refl A).alloc _).drew.trans g1)⟩)))
  all_goals
    obtain ⟨X3, eX, Y, eY, M⟩ : ∃ X3, X3 = _ ∧ ∃ Y, Y = _ ∧ Hid (Mid B w X3 t r room v v' vr L L' Y was bx (stL 0 o id n a)) := by
      first
        | exact ⟨_, rfl, _, rfl, Mid.of_new k2.out T2.out R2.out C2.out N2.out (GX.out.trans (gD.trans g1))⟩
        | exact ⟨_, rfl, _, rfl, Mid.of_set k2.out T2.out R2.out C2.out N2.out (GX.out.trans ((gD.trans g1).alloc _)) kv.out rfl (Nat.le_trans GX.out.size (gD.trans g1).size)⟩
        | exact ⟨_, rfl, _, rfl, Mid.of_set k2.out T2.out R2.out C2.out N2.out (GX.out.trans (((Gr.refl A).alloc _).drew.trans g1)) kv.out rfl GX.out.size⟩
    rw [← eX, ← eY]
    have hB3 : B ≤ X3.heap.size := Nat.le_trans HBB.out (by rw [← EB.out]; exact M.out.chg.size)
    have RP := hid0 (rput_u M.out.ref hB3 HA.out HL id n D2.out)
    have b2 := M.out.box.at 2
    have b3 := M.out.box.at 3
    clear eX eY T2 R2 C2 k2 N2 D2 KV q2 q3 PU HH KX g1 q x2 x3 gD
    go_wp2_with fail
    refine RP.out.mono ?_
    rintro e X4 ⟨rfl, vr', R4, C4, N4⟩
    have T4 := hid0 (Pr.back M.out.tab M.out.ref C4)
    have kv4 := stv M.out.ans M.out.ref C4
    have hR4 := hid0 R4
    have hN : Hid (NewRow w vr vr') := fun k e => (N4 k e).imp (fun h => h) fun h => Nat.le_trans M.out.chg.size h
    have hC : Hid (Chg (qP t r v vr) w X4) := (M.out.chg.wide (fun _ _ e => .inl e)).trans (C4.wide (fun _ _ e => .inr e))
    have hN1 := hid0 M.out.new
    clear RP R4 C4 N4 M b2 b3
    have y0 := cell_grT (vcells kv4).1
    have y1 := cell_grT (vcells kv4).2
    have G4 : Hid (∀ m os, Gr X4 (grow (X4.drewN m) os)) := fun m os => ⟨m, os, rfl⟩
    have OF : Hid (∀ m os, Calls Tryd.prog 16 #[.int .i64 was] (grow (X4.drewN m) os) fun e w' => e = .returned (vV was) ∧ ∃ p : GrownBy, w' = grow (X4.drewN p.n) p.os) := fun m os => calmGT m os (of_any was _)
    have hE := run_eqV was
    have hMX : Tryd.prog.follows .mixedOrders = true := by kernel_rfl
    clear kv4
    go_upto_region 5 with fail
    go_quiet_grown (exact OF.out _ _)
    have TG := hid0 (G4.out nq osq)
    clear y0 y1 G4 OF
    generalize grow (X4.drewN nq) osq = X5 at *
    go_wp2
    go_ret
    exact ⟨rfl, v', vr', _, ⟨T4.out.gr TG.out, hR4.out.gr TG.out, HR0.out⟩, hC.out.gr TG.out, hN1.out, hN.out⟩
set_option maxRecDepth 100000 in
set_option maxHeartbeats 2000000 in
theorem done_get (h : Pr B w t r room v vr L) (hB : B ≤ w.heap.size) (o a : Bool) (id n : Int) : Calls Tryd.prog 11 #[pT t, pT r, stV 1 o id n a] w (DoneR B t r room v vr w) := by
  have kx := Bk.new w 41 (stL 1 o id n a)
  have gx := (Gr.refl w).alloc (.cells (stL 1 o id n a).toArray 41)
  have H := h.gr gx
  have HS : B ≤ (w.alloc (.cells (stL 1 o id n a).toArray 41)).heap.size := Nat.le_trans hB gx.size
  clear h
  go_enter Tryd.func11, Tryd.ntmps11
  go_upto_region 7 with fail
  generalize hbx : w.heap.size = bx at *
  have EB := hid0 hbx
  clear hbx
  generalize w.alloc _ = A at *
  have x2 := kx.at 2
  have x3 := kx.at 3
  have x4 := kx.at 4
  have KX := hid0 kx
  have HH := hid0 H
  have HA := hid0 H.tab.asc
  have HL : L.length ≤ 65536 := Nat.le_trans H.tab.len H.tab.most
  have HR0 := hid0 H.r0
  have GX := hid0 gx
  have HBB := hid0 hB
  have PU := hid0 (get_u H.tab id)
  clear kx gx H hB
  go_wp2_with (go_at_call 35; refine PU.out.mono ?_)
  rintro e v2 ⟨was, ok, rfl, G2, D2⟩
  obtain ⟨v', L', T2, C2, N2, eL⟩ : ∃ v' L', TabIs B v2 t room v' L' ∧ Chg (tP t v) A v2 ∧ NewRow A v v' ∧ L = L' := ⟨v, L, HH.out.tab.gr G2, .of_gr G2, fun _ e => .inl e, rfl⟩
  clear G2
  subst eL
  have T2 := hid0 T2
  have R2 : Hid (RTab B v2 r room vr L) := Pr.rest HH.out.tab HH.out.ref C2
  have k2 := hid0 (stk KX.out HH.out.tab C2)
  have D2 := hid0 D2
  have M := hid0 (Mid.of_new (was := was) k2.out T2.out R2.out C2 N2 GX.out)
  clear x2 x3 x4 C2 N2 PU HH KX
  go_upto_region 8 with fail
  obtain ⟨Y, eY⟩ : ∃ Y, Y = v2.heap.size := ⟨_, rfl⟩
  rw [← eY] at M ⊢
  clear eY T2 R2 k2
  generalize v2.alloc _ = X3 at *
  have hB3 : B ≤ X3.heap.size := Nat.le_trans HBB.out (by rw [← EB.out]; exact M.out.chg.size)
  have RP := hid0 (rget_u M.out.ref HA.out HL id D2.out)
  have b2 := M.out.box.at 2
  have b3 := M.out.box.at 3
  have b4 := M.out.box.at 4
  go_wp2_with (go_at_call 41; refine RP.out.mono ?_)
  rintro e X4 ⟨rfl, G4⟩
  obtain ⟨vr', R4, C4, N4⟩ : ∃ vr', RTab B X4 r room vr' L ∧ Chg (tP r vr) X3 X4 ∧ NewRow X3 vr vr' := ⟨vr, M.out.ref.gr G4, .of_gr G4, fun _ e => .inl e⟩
  clear G4
  have T4 := hid0 (Pr.back M.out.tab M.out.ref C4)
  have kv4 := stv M.out.ans M.out.ref C4
  have hR4 := hid0 R4
  have hN : Hid (NewRow w vr vr') := fun k e => (N4 k e).imp (fun h => h) fun h => Nat.le_trans M.out.chg.size h
  have hC : Hid (Chg (qP t r v vr) w X4) := (M.out.chg.wide (fun _ _ e => .inl e)).trans (C4.wide (fun _ _ e => .inr e))
  have hN1 := hid0 M.out.new
  clear RP R4 C4 N4 M b2 b3 b4
  have y0 := cell_grT (vcells kv4).1
  have y1 := cell_grT (vcells kv4).2
  have G4 : Hid (∀ m os, Gr X4 (grow (X4.drewN m) os)) := fun m os => ⟨m, os, rfl⟩
  have OF : Hid (∀ m os, Calls Tryd.prog 16 #[.int .i64 was] (grow (X4.drewN m) os) fun e w' => e = .returned (vV was) ∧ ∃ p : GrownBy, w' = grow (X4.drewN p.n) p.os) := fun m os => calmGT m os (of_any was _)
  have hE := run_eqV was
  have hMX : Tryd.prog.follows .mixedOrders = true := by kernel_rfl
  clear kv4
  cases ok
  all_goals
    go_upto_region 9 with fail
    go_quiet_grown (exact OF.out _ _)
    have TG := hid0 (G4.out nq osq)
    clear y0 y1 G4 OF
    generalize grow (X4.drewN nq) osq = X5 at *
    go_wp2
    go_ret
    exact ⟨rfl, v', vr', _, ⟨T4.out.gr TG.out, hR4.out.gr TG.out, HR0.out⟩, hC.out.gr TG.out, hN1.out, hN.out⟩
set_option maxRecDepth 100000 in
set_option maxHeartbeats 2000000 in
theorem done_del (h : Pr B w t r room v vr L) (hB : B ≤ w.heap.size) (o a : Bool) (id n : Int) : Calls Tryd.prog 11 #[pT t, pT r, stV 2 o id n a] w (DoneR B t r room v vr w) := by
  have kx := Bk.new w 41 (stL 2 o id n a)
  have gx := (Gr.refl w).alloc (.cells (stL 2 o id n a).toArray 41)
  have H := h.gr gx
  have HS : B ≤ (w.alloc (.cells (stL 2 o id n a).toArray 41)).heap.size := Nat.le_trans hB gx.size
  clear h
  go_enter Tryd.func11, Tryd.ntmps11
  go_upto_region 11 with fail
  generalize hbx : w.heap.size = bx at *
  have EB := hid0 hbx
  clear hbx
  generalize w.alloc _ = A at *
  have x2 := kx.at 2
  have x3 := kx.at 3
  have x4 := kx.at 4
  have KX := hid0 kx
  have HH := hid0 H
  have HA := hid0 H.tab.asc
  have HL : L.length ≤ 65536 := Nat.le_trans H.tab.len H.tab.most
  have HR0 := hid0 H.r0
  have GX := hid0 gx
  have HBB := hid0 hB
  have PU := hid0 (del_u H.tab HS id)
  clear kx gx H hB
  go_wp2_with (go_at_call 18; refine PU.out.mono ?_)
  rintro e v2 ⟨was, ok, v', L', rfl, T2, C2, N2, D2⟩
  have T2 := hid0 T2
  have R2 : Hid (RTab B v2 r room vr L) := Pr.rest HH.out.tab HH.out.ref C2
  have k2 := hid0 (stk KX.out HH.out.tab C2)
  have D2 := hid0 D2
  have M := hid0 (Mid.of_new (was := was) k2.out T2.out R2.out C2 N2 GX.out)
  clear x2 x3 x4 C2 N2 PU HH KX
  go_upto_region 12 with fail
  obtain ⟨Y, eY⟩ : ∃ Y, Y = v2.heap.size := ⟨_, rfl⟩
  rw [← eY] at M ⊢
  clear eY T2 R2 k2
  generalize v2.alloc _ = X3 at *
  have hB3 : B ≤ X3.heap.size := Nat.le_trans HBB.out (by rw [← EB.out]; exact M.out.chg.size)
  have RP := hid0 (rdel_u M.out.ref hB3 HA.out HL id D2.out)
  have b2 := M.out.box.at 2
  have b3 := M.out.box.at 3
  have b4 := M.out.box.at 4
  go_wp2_with (go_at_call 42; refine RP.out.mono ?_)
  rintro e X4 ⟨rfl, vr', R4, C4, N4⟩
  skip
  have T4 := hid0 (Pr.back M.out.tab M.out.ref C4)
  have kv4 := stv M.out.ans M.out.ref C4
  have hR4 := hid0 R4
  have hN : Hid (NewRow w vr vr') := fun k e => (N4 k e).imp (fun h => h) fun h => Nat.le_trans M.out.chg.size h
  have hC : Hid (Chg (qP t r v vr) w X4) := (M.out.chg.wide (fun _ _ e => .inl e)).trans (C4.wide (fun _ _ e => .inr e))
  have hN1 := hid0 M.out.new
  clear RP R4 C4 N4 M b2 b3 b4
  have y0 := cell_grT (vcells kv4).1
  have y1 := cell_grT (vcells kv4).2
  have G4 : Hid (∀ m os, Gr X4 (grow (X4.drewN m) os)) := fun m os => ⟨m, os, rfl⟩
  have OF : Hid (∀ m os, Calls Tryd.prog 16 #[.int .i64 was] (grow (X4.drewN m) os) fun e w' => e = .returned (vV was) ∧ ∃ p : GrownBy, w' = grow (X4.drewN p.n) p.os) := fun m os => calmGT m os (of_any was _)
  have hE := run_eqV was
  have hMX : Tryd.prog.follows .mixedOrders = true := by kernel_rfl
  clear kv4
  cases ok
  all_goals
    go_upto_region 13 with fail
    go_quiet_grown (exact OF.out _ _)
    have TG := hid0 (G4.out nq osq)
    clear y0 y1 G4 OF
    generalize grow (X4.drewN nq) osq = X5 at *
    go_wp2
    go_ret
    exact ⟨rfl, v', vr', _, ⟨T4.out.gr TG.out, hR4.out.gr TG.out, HR0.out⟩, hC.out.gr TG.out, hN1.out, hN.out⟩
set_option maxRecDepth 100000 in
set_option maxHeartbeats 2000000 in
theorem done_next (h : Pr B w t r room v vr L) (hB : B ≤ w.heap.size) (o a : Bool) (id n : Int) : Calls Tryd.prog 11 #[pT t, pT r, stV 3 o id n a] w (DoneR B t r room v vr w) := by
  have kx := Bk.new w 41 (stL 3 o id n a)
  have gx := (Gr.refl w).alloc (.cells (stL 3 o id n a).toArray 41)
  have H := h.gr gx
  have HS : B ≤ (w.alloc (.cells (stL 3 o id n a).toArray 41)).heap.size := Nat.le_trans hB gx.size
  clear h
  go_enter Tryd.func11, Tryd.ntmps11
  go_upto_region 15 with fail
  generalize hbx : w.heap.size = bx at *
  have EB := hid0 hbx
  clear hbx
  generalize w.alloc _ = A at *
  have x2 := kx.at 2
  have x3 := kx.at 3
  have x4 := kx.at 4
  have KX := hid0 kx
  have HH := hid0 H
  have HA := hid0 H.tab.asc
  have HL : L.length ≤ 65536 := Nat.le_trans H.tab.len H.tab.most
  have HR0 := hid0 H.r0
  have GX := hid0 gx
  have HBB := hid0 hB
  have PU := hid0 (next_u H.tab id a)
  clear kx gx H hB
  go_wp2_with (go_at_call 17; refine PU.out.mono ?_)
  rintro e v2 ⟨num, was, ok, rfl, G2, D2⟩
  obtain ⟨v', L', T2, C2, N2, eL⟩ : ∃ v' L', TabIs B v2 t room v' L' ∧ Chg (tP t v) A v2 ∧ NewRow A v v' ∧ L = L' := ⟨v, L, HH.out.tab.gr G2, .of_gr G2, fun _ e => .inl e, rfl⟩
  clear G2
  subst eL
  have T2 := hid0 T2
  have R2 : Hid (RTab B v2 r room vr L) := Pr.rest HH.out.tab HH.out.ref C2
  have k2 := hid0 (stk KX.out HH.out.tab C2)
  have D2 := hid0 D2
  have M := hid0 (Mid.of_new (was := was) k2.out T2.out R2.out C2 N2 GX.out)
  clear x2 x3 x4 C2 N2 PU HH KX
  go_upto_region 16 with fail
  obtain ⟨Y, eY⟩ : ∃ Y, Y = v2.heap.size := ⟨_, rfl⟩
  rw [← eY] at M ⊢
  clear eY T2 R2 k2
  generalize v2.alloc _ = X3 at *
  have hB3 : B ≤ X3.heap.size := Nat.le_trans HBB.out (by rw [← EB.out]; exact M.out.chg.size)
  have RP := hid0 (rnext_u M.out.ref HL id D2.out)
  have b2 := M.out.box.at 2
  have b3 := M.out.box.at 3
  have b4 := M.out.box.at 4
  go_wp2_with (go_at_call 43; refine RP.out.mono ?_)
  rintro e X4 ⟨rfl, G4⟩
  obtain ⟨vr', R4, C4, N4⟩ : ∃ vr', RTab B X4 r room vr' L ∧ Chg (tP r vr) X3 X4 ∧ NewRow X3 vr vr' := ⟨vr, M.out.ref.gr G4, .of_gr G4, fun _ e => .inl e⟩
  clear G4
  have T4 := hid0 (Pr.back M.out.tab M.out.ref C4)
  have kv4 := stv M.out.ans M.out.ref C4
  have hR4 := hid0 R4
  have hN : Hid (NewRow w vr vr') := fun k e => (N4 k e).imp (fun h => h) fun h => Nat.le_trans M.out.chg.size h
  have hC : Hid (Chg (qP t r v vr) w X4) := (M.out.chg.wide (fun _ _ e => .inl e)).trans (C4.wide (fun _ _ e => .inr e))
  have hN1 := hid0 M.out.new
  clear RP R4 C4 N4 M b2 b3 b4
  have y0 := cell_grT (vcells kv4).1
  have y1 := cell_grT (vcells kv4).2
  have G4 : Hid (∀ m os, Gr X4 (grow (X4.drewN m) os)) := fun m os => ⟨m, os, rfl⟩
  have OF : Hid (∀ m os, Calls Tryd.prog 16 #[.int .i64 was] (grow (X4.drewN m) os) fun e w' => e = .returned (vV was) ∧ ∃ p : GrownBy, w' = grow (X4.drewN p.n) p.os) := fun m os => calmGT m os (of_any was _)
  have hE := run_eqV was
  have hMX : Tryd.prog.follows .mixedOrders = true := by kernel_rfl
  clear kv4
  cases ok
  all_goals
    go_upto_region 17 with fail
    go_quiet_grown (exact OF.out _ _)
    have TG := hid0 (G4.out nq osq)
    clear y0 y1 G4 OF
    generalize grow (X4.drewN nq) osq = X5 at *
    go_wp2
    go_ret
    exact ⟨rfl, v', vr', _, ⟨T4.out.gr TG.out, hR4.out.gr TG.out, HR0.out⟩, hC.out.gr TG.out, hN1.out, hN.out⟩
end
end Go.Proofs.YtjnjpjpgokdciaaDoor
