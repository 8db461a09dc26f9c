/- Put. -/
import Derived.Test.YtjnjpjpgokdciaaDoorIg
import Derived.Deep.RegionWith
set_option linter.unusedSimpArgs false
set_option linter.unusedVariables false
namespace Go.Proofs.YtjnjpjpgokdciaaDoor
open Go.RowKit Go.Sort Go.Shelf Go.Lib

/-- What a call may change: the table's block and the row that it owns. -/
abbrev tP (t : Nat) (v : Value) : Nat → Prop := fun k => k = t ∨ v.ownBlock = some k
/-- A row that a call leaves: the old one, or a new one. -/
def NewRow (w : World) (v v' : Value) : Prop := ∀ g, v'.ownBlock = some g → v.ownBlock = some g ∨ w.heap.size ≤ g
def PutR (B : Nat) (t room : Nat) (v : Value) (L : List En) (id n : Int) (w : World) (e : Ending) (w' : World) : Prop :=
  ∃ i, Cut L id i ∧ Chg (tP t v) w w' ∧
    ((there L id i = true ∧ e = .returned (.tuple #[vV (valAt L i), .int .i64 0]) ∧ ∃ nb, w.heap.size ≤ nb ∧ TabIs B w' t room v (L.set i (id, n, nb))) ∨
     (there L id i = false ∧ L.length = room ∧ e = .returned (.tuple #[vV 0, .int .i64 5]) ∧ TabIs B w' t room v L) ∨
     (there L id i = false ∧ L.length < room ∧ e = .returned (.tuple #[vV 0, .int .i64 0]) ∧ ∃ nb v', w.heap.size ≤ nb ∧ TabIs B w' t room v' (ins L i (id, n, nb)) ∧ NewRow w v v'))
section
variable {B : Nat} {w : World} {t room : Nat} {v : Value} {L : List En}
theorem RowG.set {g cp : Nat} (h : RowG w g cp L) {i : Nat} (hi : i < L.length) (x : En) : RowG (w.setCell ⟨g, i, none⟩ (pT x.2.2)) g cp (L.set i x) := by
  obtain ⟨r, h, k⟩ := h
  refine ⟨r, ?_, by simpa using k⟩
  have := h.set i (pT x.2.2)
  rw [List.set_append_left _ _ (by rw [pts_len]; exact hi)] at this
  have e : (pts L).set i (pT x.2.2) = pts (L.set i x) := by simp [pts, List.map_set]
  rw [e] at this
  exact this
theorem TabIs.put {A : World} {g cp i nb : Nat} {id n : Int} {x : En} (H : TabIs B A t room (.slice (some ⟨g, 0, none⟩) L.length cp) L) (kN : Bk A nb 100 (rL (id, n, nb))) (hx : L[i]? = some x) (ex : x.1 = id) :
    TabIs B (A.setCell ⟨g, i, none⟩ (pT nb)) t room (.slice (some ⟨g, 0, none⟩) L.length cp) (L.set i (id, n, nb)) := by
  have hi := (List.getElem?_eq_some_iff.1 hx).1
  obtain ⟨hB1, hR⟩ : B ≤ g ∧ RowG A g cp L := by
    rcases H.sl with ⟨e, _⟩ | ⟨g', cp', e, hB, h⟩
    · cases e
    · cases e; exact ⟨hB, h⟩
  obtain ⟨cur, kg⟩ : ∃ cur, Bk A g 97 cur := by
    obtain ⟨r, h, _⟩ := hR
    exact ⟨_, h⟩
  have ne : ∀ {b tt l}, Bk A b tt l → tt ≠ 97 → b ≠ g := fun k h e => h (bk_ty (e ▸ k) kg)
  refine ⟨H.blk.other (a := ⟨g, i, none⟩) (ne H.blk (by decide)) _, .inr ⟨g, cp, by simp, hB1, hR.set hi (id, n, nb)⟩, fun y hy => ?_, asc_set H.asc hx ex n nb, by simpa using H.len, H.most, H.t0⟩
  rcases (set_mem H.asc hx).1 hy with rfl | ⟨hy, _⟩
  · exact kN.other (a := ⟨g, i, none⟩) (ne kN (by decide)) _
  · exact (H.ents y hy).other (a := ⟨g, i, none⟩) (ne (H.ents y hy) (by decide)) _
theorem TabIs.own_ne (H : TabIs B w t room v L) : ∀ g, v.ownBlock = some g → g ≠ t ∧ ∀ b l, Bk w b 100 l → b ≠ g := fun g e => by
  obtain ⟨_, _, cur, k⟩ := H.sl.lt e
  refine ⟨fun h => ?_, fun b l kb h => ?_⟩
  · subst h
    have := bk_ty H.blk k
    cases this
  · subst h
    have := bk_ty kb k
    cases this
theorem TabIs.ins_ok {A W : World} {g cp i nb : Nat} {id n : Int} (H : TabIs B A t room v L) (kR : Bk A nb 100 (rL (id, n, nb))) (hC : Chg (fun k => v.ownBlock = some k) A W) (hR : RowG W g cp (ins L i (id, n, nb))) (hBg : B ≤ g)
    (hAt : v.ownBlock = some g ∨ A.heap.size ≤ g) (hc : Cut L id i) (hth : there L id i = false) (hlt : L.length < room) :
    TabIs B (W.setCell ⟨t, 2, none⟩ (.slice (some ⟨g, 0, none⟩) (L.length + 1) cp)) t room (.slice (some ⟨g, 0, none⟩) (L.length + 1) cp) (ins L i (id, n, nb)) := by
  have hgt : g ≠ t := by
    rcases hAt with e | e
    · exact (H.own_ne g e).1
    · have := H.blk.lt; omega
  have kt := H.blk.chg hC (fun e => (H.own_ne t e).1 rfl)
  have ne : ∀ b l, Bk A b 100 l → b ≠ t := fun b l k e => by
    subst e
    have := bk_ty k H.blk
    cases this
  refine ⟨kt.set 2 _, .inr ⟨g, cp, by rw [ins_len L i _ hc.le], hBg, hR.same (Below.heap_setCell _ _ _ _ hgt)⟩, fun y hy => ?_, asc_ins H.asc hc hth n nb, by rw [ins_len L i _ hc.le]; omega, H.most, H.t0⟩
  rcases ins_mem.1 hy with rfl | hy
  · exact (kR.chg hC (fun e => (H.own_ne _ e).2 _ _ kR rfl)).other (a := ⟨t, 2, none⟩) (ne _ _ kR) _
  · exact ((H.ents y hy).chg hC (fun e => (H.own_ne _ e).2 _ _ (H.ents y hy) rfl)).other (a := ⟨t, 2, none⟩) (ne _ _ (H.ents y hy)) _
theorem put_start (w : World) (n : Int) :
    Gr w (((w.alloc (.cells #[.int .i64 n, .string (sB n)] 32)).alloc (.cells #[.int .i64 0, .string ⟨#[]⟩] 32)).alloc (.cells #[.int .i64 0, .string ⟨#[]⟩] 32)) ∧
    Bk (((w.alloc (.cells #[.int .i64 n, .string (sB n)] 32)).alloc (.cells #[.int .i64 0, .string ⟨#[]⟩] 32)).alloc (.cells #[.int .i64 0, .string ⟨#[]⟩] 32)) w.heap.size 32 (vL n) ∧
    Bk (((w.alloc (.cells #[.int .i64 n, .string (sB n)] 32)).alloc (.cells #[.int .i64 0, .string ⟨#[]⟩] 32)).alloc (.cells #[.int .i64 0, .string ⟨#[]⟩] 32)) (w.heap.size + 1) 32 (vL 0) ∧
    Bk (((w.alloc (.cells #[.int .i64 n, .string (sB n)] 32)).alloc (.cells #[.int .i64 0, .string ⟨#[]⟩] 32)).alloc (.cells #[.int .i64 0, .string ⟨#[]⟩] 32)) (w.heap.size + 1 + 1) 32 (vL 0) := by
  have k5 : Bk (w.alloc (.cells #[.int .i64 n, .string (sB n)] 32)) w.heap.size 32 (vL n) := Bk.new w 32 (vL n)
  have g1 := (Gr.refl w).alloc (.cells #[.int .i64 n, .string (sB n)] 32)
  have z1 : (w.alloc (.cells #[.int .i64 n, .string (sB n)] 32)).heap.size = w.heap.size + 1 := World.size_alloc _ _
  generalize w.alloc (.cells #[.int .i64 n, .string (sB n)] 32) = w1 at *
  have k6 : Bk (w1.alloc (.cells #[.int .i64 0, .string ⟨#[]⟩] 32)) w1.heap.size 32 (vL 0) := Bk.new w1 32 (vL 0)
  have g2 := (Gr.refl w1).alloc (.cells #[.int .i64 0, .string ⟨#[]⟩] 32)
  have z2 : (w1.alloc (.cells #[.int .i64 0, .string ⟨#[]⟩] 32)).heap.size = w1.heap.size + 1 := World.size_alloc _ _
  generalize w1.alloc (.cells #[.int .i64 0, .string ⟨#[]⟩] 32) = w2 at *
  have k8 : Bk (w2.alloc (.cells #[.int .i64 0, .string ⟨#[]⟩] 32)) w2.heap.size 32 (vL 0) := Bk.new w2 32 (vL 0)
  have g3 := (Gr.refl w2).alloc (.cells #[.int .i64 0, .string ⟨#[]⟩] 32)
  rw [z1] at k6 z2
  rw [z2] at k8
  exact ⟨(g1.trans g2).trans g3, (k5.gr g2).gr g3, k6.gr g3, k8⟩
set_option maxHeartbeats 2000000 in
theorem put_any (h : TabIs B w t room v L) (hB : B ≤ w.heap.size) (id n : Int) : Calls Tryd.prog 15 #[pT t, .int .u32 id, vV n] w (PutR B t room v L id n w) := by
  obtain ⟨gW, k5, k6, k8⟩ := put_start w n
  have H := h.gr gW
  have ht := h.blk.lt
  have hvl := fun g e => (h.sl.lt (g := g) e).1
  clear h
  have AB := hid0 (absent_yes t _ H.c0)
  have F := hid0 (find_any H id)
  replace H := hid0 H
  replace gW := hid0 gW
  go_enter Tryd.func15, Tryd.ntmps15
  go_upto_region 2 with fail
  obtain ⟨b5, e5, h5⟩ : ∃ b, b = w.heap.size ∧ w.heap.size ≤ b := ⟨_, rfl, Nat.le_refl _⟩
  obtain ⟨b6, e6, h6⟩ : ∃ b, b = w.heap.size + 1 ∧ w.heap.size ≤ b := ⟨_, rfl, by omega⟩
  obtain ⟨b8, e8, h8⟩ : ∃ b, b = w.heap.size + 1 + 1 ∧ w.heap.size ≤ b := ⟨_, rfl, by omega⟩
  have hne : Hid (b5 ≠ b6 ∧ b5 ≠ b8 ∧ b6 ≠ b8) := ⟨by omega, by omega, by omega⟩
  rw [← e8, ← e6, ← e5]
  rw [← e5] at k5
  rw [← e6] at k6
  rw [← e8] at k8
  clear e5 e6 e8
  generalize World.alloc (World.alloc (World.alloc _ _) _) _ = W at *
  go_wp2_with (go_at_call 37; refine AB.out.mono ?_; rintro e w1 ⟨rfl, hw⟩; cases hw)
  refine F.out.mono ?_
  rintro e w1 ⟨i, hc, rfl, hw⟩
  cases hw
  have HC := hid0 hc
  clear hc F AB
  replace k5 := hid0 k5
  replace k6 := hid0 k6
  replace k8 := hid0 k8
  have hsz := gW.out.size
  cases hth : there L id i with
  | true =>
    obtain ⟨x, hx, ex⟩ := there_yes hth
    have hm := List.mem_of_getElem? hx
    have c2 := H.out.c2
    have rk := H.out.ents x hm
    obtain ⟨g1, cp, rfl, hB1, hR⟩ : ∃ g cp, v = .slice (some ⟨g, 0, none⟩) L.length cp ∧ B ≤ g ∧ RowG W g cp L := by
      rcases H.out.sl with ⟨_, rfl⟩ | h
      · simp at hx
      · exact h
    have cc := hR.cell hx
    have r1 := rk.at 1
    have r2 := rk.at 2
    have hi := (List.getElem?_eq_some_iff.1 hx).1
    simp only [List.getElem?_cons_zero, List.getElem?_cons_succ] at r1 r2
    have hi' : (i : Int) < (L.length : Int) := by omega
    have ev : Hid (valAt L i = x.2.1) := by simp [Hid, valAt, List.getD, hx]
    have HX := hid0 hx
    have EX := hid0 ex
    have f0 := k8.out.frozen 0
    have f1 := k8.out.frozen 1
    obtain ⟨q0, q1⟩ := vcells k8.out
    clear hR rk hm hx ex
    go_upto_region 8 with fail
    have k8' := hid0 (k8.out.setv (m := x.2.1))
    have ch : Chg (fun k => k = b8) W ((W.setCell ⟨b8, 0, none⟩ (.int .i64 x.2.1)).setCell ⟨b8, 1, none⟩ (.string (sB x.2.1))) := (Chg.set (p := fun k => k = b8) W (a := ⟨b8, 0, none⟩) rfl _).trans (Chg.set (p := fun k => k = b8) _ (a := ⟨b8, 1, none⟩) rfl _)
    have g2 := hid0 (gW.out.setv (m := x.2.1) (b := b8) h8)
    clear c2 cc r1 r2 f0 f1 q0 q1
    generalize World.setCell _ _ _ = W2 at *
    have H2 := hid0 (H.out.chg ch (by omega) (fun g e => by have := hvl g e; omega) (fun y hy e => by have := bk_ty (H.out.ents y hy) (e ▸ k8.out); cases this))
    have k5' := hid0 (k5.out.chg ch hne.out.2.1)
    have k6' := hid0 (k6.out.chg ch hne.out.2.2)
    clear ch k5 k6 k8 H
    have hR : RowG W2 g1 cp L := by
      rcases H2.out.sl with ⟨e, _⟩ | ⟨g, cp', e, _, h⟩
      · cases e
      · cases e; exact h
    have c2 := H2.out.c2
    have cc := hR.cell HX.out
    have ff := hR.frozen i
    obtain ⟨q0, q1⟩ := vcells k5'.out
    have gA := (Gr.refl W2).alloc (.cells #[.int .u32 id, .int .i64 n, .string (sB n)] 100)
    have c2' := below_cell c2 gA.below
    have cc' := below_cell cc gA.below
    have ff' := (hR.gr gA).frozen i
    go_region
    have kN : Bk (W2.alloc (.cells #[.int .u32 id, .int .i64 n, .string (sB n)] 100)) W2.heap.size 100 (rL (id, n, W2.heap.size)) := Bk.new W2 100 (rL (id, n, W2.heap.size))
    have TP := ((H2.out.gr gA).put kN HX.out EX.out).gr (Gr.refl _).drew
    have CA : Chg (tP t (.slice (some ⟨g1, 0, none⟩) L.length cp)) w (((W2.alloc (.cells #[.int .u32 id, .int .i64 n, .string (sB n)] 100)).setCell ⟨g1, i, none⟩ (pT W2.heap.size)).drew) :=
      ((Chg.of_gr (g2.out.trans gA)).trans (Chg.set (p := tP t (.slice (some ⟨g1, 0, none⟩) L.length cp)) _ (a := ⟨g1, i, none⟩) (.inr rfl) _)).gr (Gr.refl _).drew
    have hg1 := hvl g1 rfl
    have k8x := ((k8'.out.gr gA).other (a := ⟨g1, i, none⟩) (by show b8 ≠ g1; omega) (pT W2.heap.size)).gr (Gr.refl _).drew
    have k6x := ((k6'.out.gr gA).other (a := ⟨g1, i, none⟩) (by show b6 ≠ g1; omega) (pT W2.heap.size)).gr (Gr.refl _).drew
    have hnb : w.heap.size ≤ W2.heap.size := g2.out.size
    clear c2 cc ff q0 q1 c2' cc' ff' gA kN hR k8' k6' k5' g2 H2
    generalize W2.heap.size = nb at *
    generalize World.drew _ = X at *
    replace TP := hid0 TP
    replace CA := hid0 CA
    have f0 := k6x.frozen 0
    have f1 := k6x.frozen 1
    obtain ⟨p0, p1⟩ := vcells k6x
    obtain ⟨q0, q1⟩ := vcells k8x
    replace k6x := hid0 k6x
    clear k8x
    go_wp2
    have k2 := k6x.out.setv (m := x.2.1)
    have ch : Chg (fun k => k = b6) X ((X.setCell ⟨b6, 0, none⟩ (.int .i64 x.2.1)).setCell ⟨b6, 1, none⟩ (.string (sB x.2.1))) := (Chg.set (p := fun k => k = b6) X (a := ⟨b6, 0, none⟩) rfl _).trans (Chg.set (p := fun k => k = b6) _ (a := ⟨b6, 1, none⟩) rfl _)
    have T2 := hid0 (TP.out.chg ch (by omega) (fun g e => by have := hvl g e; omega) (fun y hy e => by have := bk_ty (TP.out.ents y hy) (e ▸ k6x.out); cases this))
    have C2 := hid0 (CA.out.next ch (fun j hj e => by omega))
    generalize World.setCell _ _ _ = Y at *
    obtain ⟨q0, q1⟩ := vcells k2
    refine bodyPost_ret (v := .tuple #[vV x.2.1, .int .i64 0]) (by simp [results, Tryd.results15, go_sem, q0, q1]) rfl ⟨i, HC.out, C2.out, .inl ⟨hth, by rw [ev.out], nb, hnb, T2.out⟩⟩
  | false =>
    have hcl := HC.out.le
    have c1 := fun m => below_cell H.out.c1 ((Gr.refl W).drewN m).below
    have c2 := fun m => below_cell H.out.c2 ((Gr.refl W).drewN m).below
    have hlen := H.out.len
    have hmo := H.out.most
    obtain ⟨ao, c, ev⟩ := H.out.sl.slice
    subst ev
    by_cases hfull : L.length = room
    · have hf : ((L.length : Int) == (room : Int)) = true := by simp; omega
      go_upto_region 9 with fail
      obtain ⟨nF, hnF⟩ : ∃ nF : Nat, 5 ≤ nF := ⟨5, by omega⟩
      refine (wpIn_wide (n := nF)).1 ?_
      refine region_head_lit 10 (by kernel_rfl) (by kernel_rfl) (by simp) (by kernel_rfl) ?_
      simp only [List.take_succ_cons, List.take_zero, List.drop_succ_cons, List.drop_zero]
      repeat (gi_big_quiet_step (fail))
      refine wpQuietIn_nil ?_
      intro _ hw'
      obtain ⟨q, rfl⟩ := hw'
      have gq := (Gr.refl W).drewN q
      have H3 := hid0 (H.out.gr gq)
      have k5 := hid0 (k5.out.gr gq)
      have k6 := hid0 (k6.out.gr gq)
      have k8 := hid0 (k8.out.gr gq)
      have g3 := hid0 (gW.out.trans gq)
      clear c1 c2 H gq gW hsz
      generalize W.drewN q = V at *
      have f0 := k6.out.frozen 0
      have f1 := k6.out.frozen 1
      obtain ⟨q0, q1⟩ := vcells k8.out
      obtain ⟨p0, p1⟩ := vcells k6.out
      gi_wp2
      go_wp2
      have k2 := k6.out.setv (m := 0)
      have ch : Chg (fun k => k = b6) V ((V.setCell ⟨b6, 0, none⟩ (.int .i64 0)).setCell ⟨b6, 1, none⟩ (.string (sB 0))) := (Chg.set (p := fun k => k = b6) V (a := ⟨b6, 0, none⟩) rfl _).trans (Chg.set (p := fun k => k = b6) _ (a := ⟨b6, 1, none⟩) rfl _)
      have T2 := hid0 (H3.out.chg ch (by omega) (fun g e => by have := hvl g e; omega) (fun y hy e => by have := bk_ty (H3.out.ents y hy) (e ▸ k6.out); cases this))
      have C2 := hid0 ((Chg.of_gr (p := tP t (.slice ao L.length c)) g3.out).next ch (fun j hj e => by omega))
      generalize World.setCell _ _ _ = Y at *
      obtain ⟨q0, q1⟩ := vcells k2
      exact bodyPost_ret (v := .tuple #[vV 0, .int .i64 5]) (by simp [results, Tryd.results15, go_sem, q0, q1]) rfl ⟨i, HC.out, C2.out, .inr (.inl ⟨hth, hfull, rfl, T2.out⟩)⟩
    · have hf : ((L.length : Int) == (room : Int)) = false := by simp; omega
      go_upto_region 9 with fail
      obtain ⟨nF, hnF⟩ : ∃ nF : Nat, 5 ≤ nF := ⟨5, by omega⟩
      refine (wpIn_wide (n := nF)).1 ?_
      refine region_head_lit 10 (by kernel_rfl) (by kernel_rfl) (by simp) (by kernel_rfl) ?_
      simp only [List.take_succ_cons, List.take_zero, List.drop_succ_cons, List.drop_zero]
      repeat (gi_big_quiet_step (fail))
      refine wpQuietIn_nil ?_
      intro _ hw'
      obtain ⟨q, rfl⟩ := hw'
      have gq := (Gr.refl W).drewN q
      have H3 := hid0 (H.out.gr gq)
      have k5 := hid0 (k5.out.gr gq)
      have k6 := hid0 (k6.out.gr gq)
      have k8 := hid0 (k8.out.gr gq)
      have g3 := hid0 (gW.out.trans gq)
      clear c1 c2 H gq gW hsz
      generalize W.drewN q = V at *
      gi_wp2_with fail
      go_upto_region 5 with fail
      have c2 := H3.out.c2
      obtain ⟨q0, q1⟩ := vcells k5.out
      have gB : Gr V (((V.alloc (.cells #[.int .u32 id, .int .i64 n, .string (sB n)] 100)).alloc (.cells #[pT V.heap.size] 97)).drew) := (((Gr.refl V).alloc _).alloc _).drew
      have kR : Bk (((V.alloc (.cells #[.int .u32 id, .int .i64 n, .string (sB n)] 100)).alloc (.cells #[pT V.heap.size] 97)).drew) V.heap.size 100 (rL (id, n, V.heap.size)) := ((Bk.new V 100 (rL (id, n, V.heap.size))).alloc _).gr (Gr.refl _).drew
      have kV : Bk (((V.alloc (.cells #[.int .u32 id, .int .i64 n, .string (sB n)] 100)).alloc (.cells #[pT V.heap.size] 97)).drew) (V.heap.size + 1) 97 [pT V.heap.size] := by
        have := (Bk.new (V.alloc (.cells #[.int .u32 id, .int .i64 n, .string (sB n)] 100)) 97 [pT V.heap.size]).gr (Gr.refl _).drew
        rwa [World.size_alloc] at this
      have HV := H3.out.gr gB
      have c2a := below_cell c2 ((Gr.refl V).alloc (.cells #[.int .u32 id, .int .i64 n, .string (sB n)] 100)).below
      have c2b := below_cell c2 (((Gr.refl V).alloc (.cells #[.int .u32 id, .int .i64 n, .string (sB n)] 100)).alloc (.cells #[pT V.heap.size] 97)).below
      have sV : w.heap.size ≤ V.heap.size := g3.out.size
      have INS := hid0 (insert_any B (V.heap.size + 1) V.heap.size i (.slice ao L.length c) L _ HV.sl (Nat.le_trans hB (Nat.le_trans sV gB.size)) hcl (Nat.le_trans hlen hmo) kV (fun g e h => by have := hvl g e; omega))
      have tg : ∀ g, (Value.slice ao L.length c).ownBlock = some g → g ≠ t ∧ g ≠ V.heap.size ∧ g < w.heap.size := fun g e => by
        have h1 := hvl g e
        refine ⟨fun h => ?_, by omega, h1⟩
        obtain ⟨_, _, cur, k⟩ := H3.out.sl.lt e
        subst h
        have := bk_ty H3.out.blk k
        cases this
      have g4 := g3.out.trans gB
      have k6b := k6.out.gr gB
      have k8b := k8.out.gr gB
      have hsz4 := gB.size
      replace HV := hid0 HV
      replace kR := hid0 kR
      clear kV gB H3 k5 k6 k8 g3
      generalize hnb : V.heap.size = nb at *
      go_region_with (go_at_call 48; refine INS.out.mono ?_; rintro e w4 ⟨g, cp, rfl, hBg, hR, hC, hAt⟩; have kt := HV.out.blk.chg hC (fun e => (tg t e).1 rfl); have c2' := kt.at 2; have f2' := kt.frozen 2; simp only [List.getElem?_cons_zero, List.getElem?_cons_succ] at c2'; have HR := hid0 hR; have HCg := hid0 hC; have HAT := hid0 hAt; clear hR hC hAt INS)
      all_goals
        have TX := hid0 (HV.out.ins_ok kR.out HCg.out (HR.out (id, n, nb) rfl) hBg HAT.out HC.out hth (by omega))
        have NR : Hid (NewRow w (.slice ao L.length c) (.slice (some ⟨g, 0, none⟩) (L.length + 1) cp)) := fun g' e => by
          cases e
          rcases HAT.out with h | h
          · exact .inl h
          · right; have := g4.size; show w.heap.size ≤ g; omega
        have CX := hid0 (((Chg.of_gr (p := tP t (.slice ao L.length c)) g4).trans (HCg.out.wide (q := tP t (.slice ao L.length c)) (fun k _ e => .inr e))).trans (Chg.set (p := tP t (.slice ao L.length c)) w4 (a := ⟨t, 2, none⟩) (.inl rfl) (.slice (some ⟨g, 0, none⟩) (L.length + 1) cp)))
        have k6x := (k6b.chg HCg.out (fun e => by have := tg _ e; omega)).other (a := ⟨t, 2, none⟩) (by show b6 ≠ t; omega) (.slice (some ⟨g, 0, none⟩) (L.length + 1) cp)
        have k8x := (k8b.chg HCg.out (fun e => by have := tg _ e; omega)).other (a := ⟨t, 2, none⟩) (by show b8 ≠ t; omega) (.slice (some ⟨g, 0, none⟩) (L.length + 1) cp)
        have hgw : ∀ g', (Value.slice (some ⟨g, 0, none⟩) (L.length + 1) cp).ownBlock = some g' → g' ≠ b6 := fun g' e => by
          cases e
          rcases HAT.out with h | h
          · have := (tg _ h).2.2; show g ≠ b6; omega
          · have := k6b.lt; show g ≠ b6; omega
        clear c2 c2a c2b q0 q1 kt c2' f2' HV kR HCg HR HAT k6b k8b g4 tg hvl hsz4 hnb
        generalize World.setCell _ _ _ = X at *
        generalize World.drew _ = DD at *
        have f0 := k6x.frozen 0
        have f1 := k6x.frozen 1
        obtain ⟨p0, p1⟩ := vcells k6x
        obtain ⟨q0, q1⟩ := vcells k8x
        replace k6x := hid0 k6x
        clear k8x
        go_wp2
        have k2 := k6x.out.setv (m := 0)
        have ch : Chg (fun k => k = b6) X ((X.setCell ⟨b6, 0, none⟩ (.int .i64 0)).setCell ⟨b6, 1, none⟩ (.string (sB 0))) := (Chg.set (p := fun k => k = b6) X (a := ⟨b6, 0, none⟩) rfl _).trans (Chg.set (p := fun k => k = b6) _ (a := ⟨b6, 1, none⟩) rfl _)
        have T2 := hid0 (TX.out.chg ch (by omega) (fun g e => hgw g e) (fun y hy e => by have := bk_ty (TX.out.ents y hy) (e ▸ k6x.out); cases this))
        have C2 := hid0 (CX.out.next ch (fun j hj e => by omega))
        generalize World.setCell _ _ _ = Y at *
        obtain ⟨q0, q1⟩ := vcells k2
        exact bodyPost_ret (v := .tuple #[vV 0, .int .i64 0]) (by simp [results, Tryd.results15, go_sem, q0, q1]) rfl ⟨i, HC.out, C2.out, .inr (.inr ⟨hth, by omega, rfl, nb, _, sV, T2.out, NR.out⟩)⟩
end
end Go.Proofs.YtjnjpjpgokdciaaDoor
