/- Put. -/
import Derived.Test.YtgdmbcfjjdngdaaDoorIgM
import Derived.Deep.RegionWith
set_option linter.unusedSimpArgs false
set_option linter.unusedVariables false
namespace Go.Proofs.YtgdmbcfjjdngdaaDoor.TM
open Go.RowKit Go.Sort Go.Shelf Go.Lib

/-- What a call may change: the table's block and the row that it owns. -/
abbrev tP (t : Nat) (v : Value) : Nat → Prop := fun k => k = t ∨ v.ownBlock = some k
/-- A row that a call leaves: the old one, or a new one. -/
def NewRow (w : World) (v v' : Value) : Prop := ∀ g, v'.ownBlock = some g → v.ownBlock = some g ∨ w.heap.size ≤ g
def PutR (B : Nat) (t room : Nat) (v : Value) (L : List En) (id n : Int) (w : World) (e : Ending) (w' : World) : Prop :=
  ∃ i, Cut L id i ∧ Chg (tP t v) w w' ∧
    ((there L id i = true ∧ e = .returned (.tuple #[vV (valAt L i), .int .i64 0]) ∧ ∃ nb, w.heap.size ≤ nb ∧ TabIs B w' t room v (L.set i (id, n, nb))) ∨
     (there L id i = false ∧ L.length = room ∧ e = .returned (.tuple #[zV, .int .i64 5]) ∧ TabIs B w' t room v L) ∨
     (there L id i = false ∧ L.length < room ∧ e = .returned (.tuple #[zV, .int .i64 0]) ∧ ∃ nb v', w.heap.size ≤ nb ∧ TabIs B w' t room v' (ins L i (id, n, nb)) ∧ NewRow w v v'))
section
variable {B : Nat} {w : World} {t room : Nat} {v : Value} {L : List En}
theorem RowG.set {g cp : Nat} (h : RowG w g cp L) {i : Nat} (hi : i < L.length) (x : En) : RowG (w.setCell ⟨g, i, none⟩ (pT x.2.2)) g cp (L.set i x) := by
  obtain ⟨r, h, k⟩ := h
  refine ⟨r, ?_, by simpa using k⟩
  have := h.set i (pT x.2.2)
  rw [List.set_append_left _ _ (by rw [pts_len]; exact hi)] at this
  have e : (pts L).set i (pT x.2.2) = pts (L.set i x) := by simp [pts, List.map_set]
  rw [e] at this
  exact this
theorem TabIs.put {A : World} {g cp i nb : Nat} {id n : Int} {x : En} (H : TabIs B A t room (.slice (some ⟨g, 0, none⟩) L.length cp) L) (kN : Bk A nb 134 (rL (id, n, nb))) (hx : L[i]? = some x) (ex : x.1 = id) :
    TabIs B (A.setCell ⟨g, i, none⟩ (pT nb)) t room (.slice (some ⟨g, 0, none⟩) L.length cp) (L.set i (id, n, nb)) := by
  have hi := (List.getElem?_eq_some_iff.1 hx).1
  obtain ⟨hB1, hR⟩ : B ≤ g ∧ RowG A g cp L := by
    rcases H.sl with ⟨e, _⟩ | ⟨g', cp', e, hB, h⟩
    · cases e
    · cases e; exact ⟨hB, h⟩
  obtain ⟨cur, kg⟩ : ∃ cur, Bk A g 131 cur := by
    obtain ⟨r, h, _⟩ := hR
    exact ⟨_, h⟩
  have ne : ∀ {b tt l}, Bk A b tt l → tt ≠ 131 → b ≠ g := fun k h e => h (bk_ty (e ▸ k) kg)
  refine ⟨H.blk.other (a := ⟨g, i, none⟩) (ne H.blk (by decide)) _, .inr ⟨g, cp, by simp, hB1, hR.set hi (id, n, nb)⟩, fun y hy => ?_, asc_set H.asc hx ex n nb, by simpa using H.len, H.most, H.t0⟩
  rcases (set_mem H.asc hx).1 hy with rfl | ⟨hy, _⟩
  · exact kN.other (a := ⟨g, i, none⟩) (ne kN (by decide)) _
  · exact (H.ents y hy).other (a := ⟨g, i, none⟩) (ne (H.ents y hy) (by decide)) _
theorem TabIs.own_ne (H : TabIs B w t room v L) : ∀ g, v.ownBlock = some g → g ≠ t ∧ ∀ b l, Bk w b 134 l → b ≠ g := fun g e => by
  obtain ⟨_, _, cur, k⟩ := H.sl.lt e
  refine ⟨fun h => ?_, fun b l kb h => ?_⟩
  · subst h
    have := bk_ty H.blk k
    cases this
  · subst h
    have := bk_ty kb k
    cases this
theorem TabIs.ins_ok {A W : World} {g cp i nb : Nat} {id n : Int} (H : TabIs B A t room v L) (kR : Bk A nb 134 (rL (id, n, nb))) (hC : Chg (fun k => v.ownBlock = some k) A W) (hR : RowG W g cp (ins L i (id, n, nb))) (hBg : B ≤ g)
    (hAt : v.ownBlock = some g ∨ A.heap.size ≤ g) (hc : Cut L id i) (hth : there L id i = false) (hlt : L.length < room) :
    TabIs B (W.setCell ⟨t, 2, none⟩ (.slice (some ⟨g, 0, none⟩) (L.length + 1) cp)) t room (.slice (some ⟨g, 0, none⟩) (L.length + 1) cp) (ins L i (id, n, nb)) := by
  have hgt : g ≠ t := by
    rcases hAt with e | e
    · exact (H.own_ne g e).1
    · have := H.blk.lt; omega
  have kt := H.blk.chg hC (fun e => (H.own_ne t e).1 rfl)
  have ne : ∀ b l, Bk A b 134 l → b ≠ t := fun b l k e => by
    subst e
    have := bk_ty k H.blk
    cases this
  refine ⟨kt.set 2 _, .inr ⟨g, cp, by rw [ins_len L i _ hc.le], hBg, hR.same (Below.heap_setCell _ _ _ _ hgt)⟩, fun y hy => ?_, asc_ins H.asc hc hth n nb, by rw [ins_len L i _ hc.le]; omega, H.most, H.t0⟩
  rcases ins_mem.1 hy with rfl | hy
  · exact (kR.chg hC (fun e => (H.own_ne _ e).2 _ _ kR rfl)).other (a := ⟨t, 2, none⟩) (ne _ _ kR) _
  · exact ((H.ents y hy).chg hC (fun e => (H.own_ne _ e).2 _ _ (H.ents y hy) rfl)).other (a := ⟨t, 2, none⟩) (ne _ _ (H.ents y hy)) _
set_option maxHeartbeats 2000000 in
theorem put_any (h : TabIs B w t room v L) (hB : B ≤ w.heap.size) (id n : Int) : Calls Tryd.prog 67 #[pT t, .int .u32 id, vV n] w (PutR B t room v L id n w) := by
  have ht := h.blk.lt
  have hvl := fun g e => (h.sl.lt (g := g) e).1
  have AB := hid0 (absent_yes t _ h.c0)
  have F := hid0 (find_any h id)
  have H := hid0 h
  clear h
  go_enter Tryd.func67, Tryd.ntmps67
  go_wp2_with (go_at_call 76; refine AB.out.mono ?_; rintro e w1 ⟨rfl, hw⟩; cases hw)
  refine F.out.mono ?_
  rintro e w1 ⟨i, hc, rfl, hw⟩
  cases hw
  have HC := hid0 hc
  clear hc F AB
  cases hth : there L id i with
  | true =>
    obtain ⟨x, hx, ex⟩ := there_yes hth
    have hm := List.mem_of_getElem? hx
    have c2 := H.out.c2
    have rk := H.out.ents x hm
    obtain ⟨g1, cp, rfl, hB1, hR⟩ : ∃ g cp, v = .slice (some ⟨g, 0, none⟩) L.length cp ∧ B ≤ g ∧ RowG w g cp L := by
      rcases H.out.sl with ⟨_, rfl⟩ | h
      · simp at hx
      · exact h
    have cc := hR.cell hx
    have ff := hR.frozen i
    have r1 := rk.at 1
    have hi := (List.getElem?_eq_some_iff.1 hx).1
    simp only [List.getElem?_cons_zero, List.getElem?_cons_succ] at r1
    have hi' : (i : Int) < (L.length : Int) := by omega
    have ev : Hid (valAt L i = x.2.1) := by simp [Hid, valAt, List.getD, hx]
    have HX := hid0 hx
    have EX := hid0 ex
    have gA := (Gr.refl w).alloc (.cells #[.int .u32 id, vV n] 134)
    have c2' := below_cell c2 gA.below
    have cc' := below_cell cc gA.below
    have ff' := (hR.gr gA).frozen i
    have kN : Bk (w.alloc (.cells #[.int .u32 id, vV n] 134)) w.heap.size 134 (rL (id, n, w.heap.size)) := Bk.new w 134 (rL (id, n, w.heap.size))
    have TP := hid0 ((H.out.gr gA).put kN HX.out EX.out)
    have CA : Hid (Chg (tP t (.slice (some ⟨g1, 0, none⟩) L.length cp)) w ((w.alloc (.cells #[.int .u32 id, vV n] 134)).setCell ⟨g1, i, none⟩ (pT w.heap.size))) :=
      (Chg.of_gr gA).trans (Chg.set (p := tP t (.slice (some ⟨g1, 0, none⟩) L.length cp)) _ (a := ⟨g1, i, none⟩) (.inr rfl) _)
    clear hR rk hm hx ex gA kN
    go_wp2
    go_ret2
    exact ⟨i, HC.out, CA.out, .inl ⟨hth, by rw [ev.out]; rfl, _, Nat.le_refl _, TP.out⟩⟩
  | false =>
    have hcl := HC.out.le
    have c1 := fun m => below_cell H.out.c1 ((Gr.refl w).drewN m).below
    have c2 := fun m => below_cell H.out.c2 ((Gr.refl w).drewN m).below
    have hlen := H.out.len
    have hmo := H.out.most
    obtain ⟨ao, c, ev⟩ := H.out.sl.slice
    subst ev
    by_cases hfull : L.length = room
    · have hf : ((L.length : Int) == (room : Int)) = true := by simp; omega
      go_upto_region 9 with fail
      obtain ⟨nF, hnF⟩ : ∃ nF : Nat, 5 ≤ nF := ⟨5, by omega⟩
      refine (wpIn_wide (n := nF)).1 ?_
      refine region_head_lit 10 (by kernel_rfl) (by kernel_rfl) (by simp) (by kernel_rfl) ?_
      simp only [List.take_succ_cons, List.take_zero, List.drop_succ_cons, List.drop_zero]
      repeat (gi_big_quiet_step (fail))
      refine wpQuietIn_nil ?_
      intro _ hw'
      obtain ⟨q, rfl⟩ := hw'
      have gq := (Gr.refl w).drewN q
      have H3 := hid0 (H.out.gr gq)
      have g3 := hid0 gq
      clear c1 c2 H gq
      generalize w.drewN q = V at *
      gi_wp2
      go_wp2
      go_ret2
      exact ⟨i, HC.out, Chg.of_gr g3.out, .inr (.inl ⟨hth, hfull, rfl, H3.out⟩)⟩
    · have hf : ((L.length : Int) == (room : Int)) = false := by simp; omega
      go_upto_region 9 with fail
      obtain ⟨nF, hnF⟩ : ∃ nF : Nat, 5 ≤ nF := ⟨5, by omega⟩
      refine (wpIn_wide (n := nF)).1 ?_
      refine region_head_lit 10 (by kernel_rfl) (by kernel_rfl) (by simp) (by kernel_rfl) ?_
      simp only [List.take_succ_cons, List.take_zero, List.drop_succ_cons, List.drop_zero]
      repeat (gi_big_quiet_step (fail))
      refine wpQuietIn_nil ?_
      intro _ hw'
      obtain ⟨q, rfl⟩ := hw'
      have gq := (Gr.refl w).drewN q
      have H3 := hid0 (H.out.gr gq)
      have g3 := hid0 gq
      clear c1 c2 H gq
      generalize w.drewN q = V at *
      gi_wp2_with fail
      go_upto_region 5 with fail
      have c2 := H3.out.c2
      have gB : Gr V ((V.alloc (.cells #[.int .u32 id, vV n] 134)).alloc (.cells #[pT V.heap.size] 131)) := ((Gr.refl V).alloc _).alloc _
      have kR : Bk ((V.alloc (.cells #[.int .u32 id, vV n] 134)).alloc (.cells #[pT V.heap.size] 131)) V.heap.size 134 (rL (id, n, V.heap.size)) := (Bk.new V 134 (rL (id, n, V.heap.size))).alloc _
      have kV : Bk ((V.alloc (.cells #[.int .u32 id, vV n] 134)).alloc (.cells #[pT V.heap.size] 131)) (V.heap.size + 1) 131 [pT V.heap.size] := by
        have := Bk.new (V.alloc (.cells #[.int .u32 id, vV n] 134)) 131 [pT V.heap.size]
        rwa [World.size_alloc] at this
      have HV := H3.out.gr gB
      have sV : w.heap.size ≤ V.heap.size := g3.out.size
      have INS := hid0 (insert_any B (V.heap.size + 1) V.heap.size i (.slice ao L.length c) L _ HV.sl (Nat.le_trans hB (Nat.le_trans sV gB.size)) hcl (Nat.le_trans hlen hmo) kV (fun g e h => by have := hvl g e; omega))
      have tg : ∀ g, (Value.slice ao L.length c).ownBlock = some g → g ≠ t ∧ g ≠ V.heap.size ∧ g < w.heap.size := fun g e => by
        have h1 := hvl g e
        refine ⟨fun h => ?_, by omega, h1⟩
        obtain ⟨_, _, cur, k⟩ := H3.out.sl.lt e
        subst h
        have := bk_ty H3.out.blk k
        cases this
      have g4 := g3.out.trans gB
      have hsz4 := gB.size
      replace HV := hid0 HV
      replace kR := hid0 kR
      clear kV gB H3 g3
      go_wp2_with fail
      generalize hnb : V.heap.size = nb at *
      refine INS.out.mono ?_
      rintro e w4 ⟨g, cp, rfl, hBg, hR, hC, hAt⟩
      have kt := HV.out.blk.chg hC (fun e => (tg t e).1 rfl)
      have c2' := kt.at 2
      have f2' := kt.frozen 2
      simp only [List.getElem?_cons_zero, List.getElem?_cons_succ] at c2'
      have HR := hid0 hR
      have HCg := hid0 hC
      have HAT := hid0 hAt
      clear hR hC hAt INS
      have TX := hid0 (HV.out.ins_ok kR.out HCg.out (HR.out (id, n, nb) rfl) hBg HAT.out HC.out hth (by omega))
      have NR : Hid (NewRow w (.slice ao L.length c) (.slice (some ⟨g, 0, none⟩) (L.length + 1) cp)) := fun g' e => by
        cases e
        rcases HAT.out with h | h
        · exact .inl h
        · right; have := g4.size; show w.heap.size ≤ g; omega
      have CX := hid0 (((Chg.of_gr (p := tP t (.slice ao L.length c)) g4).trans (HCg.out.wide (q := tP t (.slice ao L.length c)) (fun k _ e => .inr e))).trans (Chg.set (p := tP t (.slice ao L.length c)) w4 (a := ⟨t, 2, none⟩) (.inl rfl) (.slice (some ⟨g, 0, none⟩) (L.length + 1) cp)))
      clear c2 kt HV kR HCg HR HAT g4 tg hvl hsz4 hnb
      go_wp2
      go_ret2
      exact ⟨i, HC.out, CX.out, .inr (.inr ⟨hth, by omega, rfl, nb, _, sV, TX.out, NR.out⟩)⟩
end
end Go.Proofs.YtgdmbcfjjdngdaaDoor.TM
