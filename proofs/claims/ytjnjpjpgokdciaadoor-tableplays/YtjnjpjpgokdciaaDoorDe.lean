/- Del. -/
import Derived.Test.YtjnjpjpgokdciaaDoorPu
import Derived.Test.YtjnjpjpgokdciaaDoorShelf
set_option linter.unusedSimpArgs false
set_option linter.unusedVariables false
namespace Go.Proofs.YtjnjpjpgokdciaaDoor
open Go.RowKit Go.Sort Go.Shelf Go.Lib

theorem bk_putRow {α : Type} [Inhabited α] (enc : α → Value) {w : World} {g t : Nat} {l : List Value} (d : List α) (h : Bk w g t l) (hl : d.length ≤ l.length) :
    Bk (putRow enc w g 0 d.toArray) g t (d.map enc ++ l.drop d.length) := by
  unfold Bk at h ⊢
  unfold putRow mapBlock
  show (w.heap.modify g _)[g]? = _
  rw [Array.getElem?_modify]
  simp only [h, if_true, Option.map_some, onCells, Option.some.injEq, Obj.cells.injEq, and_true, true_and]
  apply Array.ext_getElem?
  intro k
  simp only [putCells, Array.getElem?_mapIdx, List.getElem?_toArray, Nat.zero_le, true_and, List.size_toArray, Nat.zero_add, Nat.sub_zero]
  by_cases hk : k < d.length
  · rw [List.getElem?_append_left (by simpa using hk), List.getElem?_eq_getElem (by omega), List.getElem?_map, List.getElem?_eq_getElem hk]
    simp [hk]
  · rw [List.getElem?_append_right (by simp; omega), List.getElem?_drop, List.length_map, show d.length + (k - d.length) = k by omega]
    cases l[k]? with
    | none => rfl
    | some x => simp [hk]
theorem putRow_other {α : Type} [Inhabited α] (enc : α → Value) {w : World} {g k : Nat} (d : Array α) (hk : k ≠ g) : (putRow enc w g 0 d).heap[k]? = w.heap[k]? := by
  unfold putRow mapBlock
  show (w.heap.modify g _)[k]? = _
  rw [Array.getElem?_modify, if_neg (fun e => hk e.symm)]
theorem chg_putRow {α : Type} [Inhabited α] (enc : α → Value) (w : World) (g : Nat) (d : Array α) : Chg (fun k => k = g) w (putRow enc w g 0 d) :=
  ⟨rfl, rfl, rfl, by simp [putRow, mapBlock], fun k _ hk => putRow_other enc d hk⟩
abbrev ads (L : List En) : List (Option Addr) := L.map fun x => some ⟨x.2.2, 0, none⟩
theorem ads_pts (L : List En) : (ads L).map Value.pointer = pts L := by simp [ads, pts]
theorem del_raw (g cp i : Nat) (L : List En) (w : World) (hR : RowG w g cp L) (hi : i < L.length) (hl : L.length ≤ 65536) :
    Calls Tryd.prog 49 #[.slice (some ⟨g, 0, none⟩) L.length cp, .int .i64 (i : Int), .int .i64 ((i + 1 : Nat) : Int)] w fun e w' => e = .returned (.slice (some ⟨g, 0, none⟩) (L.length - 1) cp) ∧ RowG w' g cp (L.eraseIdx i) ∧ Chg (fun k => k = g) w w' := by
  obtain ⟨i0, hi0, hz0, hz1, hz2⟩ := info_parts p_info
  have hle := hR.le
  have hds : (ads L).toArray.size = L.length := by simp [ads]
  have hH : Holds Value.pointer w g 0 (ads L).toArray := by
    intro j hj
    rw [hds] at hj
    refine ⟨?_, hR.frozen _⟩
    rw [Nat.zero_add, hR.cell (List.getElem?_eq_getElem hj), getElem!_pos (ads L).toArray j (by rw [hds]; exact hj)]
    simp [ads]
  have D := AnyE.slices_Delete Tryd.laysDel Value.pointer (fun _ => rfl) none Tryd.zeroValue97 i0 hi0 hz1 g 0 cp i (i + 1) (ads L).toArray w hH (by rw [hds]; exact hle.1) (by have := hle.2; unfold maxLen at this; omega) (by omega) (by rw [hds]; omega)
  rw [hds] at D
  refine D.mono ?_
  rintro e w' ⟨rfl, q, rfl⟩
  obtain ⟨rest, kR, hrl, hml⟩ := hR
  have hp := pts_len L
  have kq : Bk (Sort.ahead w q) g 97 (pts L ++ rest) := kR
  have key := bk_putRow Value.pointer ((ads L).take i ++ (ads L).drop (i + 1) ++ List.replicate (i + 1 - i) none) kq (by simp [hp]; omega)
  refine ⟨by rw [show i + 1 - i = 1 by omega], ⟨.pointer none :: rest, ?_, ?_, hml⟩, (Chg.of_gr ⟨q, #[], by rw [grow_empty]; rfl⟩ : Chg _ w (Sort.ahead w q)).trans (chg_putRow _ _ _ _)⟩
  · have e : ((ads L).take i ++ (ads L).drop (i + 1) ++ List.replicate (i + 1 - i) none).map Value.pointer ++ (pts L ++ rest).drop ((ads L).take i ++ (ads L).drop (i + 1) ++ List.replicate (i + 1 - i) none).length = pts (L.eraseIdx i) ++ .pointer none :: rest := by
      have hlen : ((ads L).take i ++ (ads L).drop (i + 1) ++ List.replicate (i + 1 - i) (none : Option Addr)).length = (pts L).length := by simp [hp]; omega
      rw [hlen, List.drop_left, show i + 1 - i = 1 by omega, del_eq, pts_app]
      simp [ads, pts, List.map_take, List.map_drop, Function.comp_def]
    rw [e] at key
    exact key
  · rw [List.length_eraseIdx, if_pos hi]
    simp
    omega

def DelR (B : Nat) (t room : Nat) (v : Value) (L : List En) (id : Int) (w : World) (e : Ending) (w' : World) : Prop :=
  ∃ i, Cut L id i ∧ Chg (tP t v) w w' ∧
    ((there L id i = true ∧ e = .returned (.tuple #[vV (valAt L i), .bool true]) ∧ ∃ v', TabIs B w' t room v' (L.eraseIdx i) ∧ v'.ownBlock = v.ownBlock) ∨
     (there L id i = false ∧ e = .returned (.tuple #[vV 0, .bool false]) ∧ TabIs B w' t room v L))
section
variable {B : Nat} {w : World} {t room : Nat} {v : Value} {L : List En}
theorem TabIs.del_ok {A W : World} {g cp i : Nat} {x : En} (H : TabIs B A t room (.slice (some ⟨g, 0, none⟩) L.length cp) L) (hC : Chg (fun k => k = g) A W) (hR : RowG W g cp (L.eraseIdx i)) (hBg : B ≤ g) (hx : L[i]? = some x) :
    TabIs B (W.setCell ⟨t, 2, none⟩ (.slice (some ⟨g, 0, none⟩) (L.length - 1) cp)) t room (.slice (some ⟨g, 0, none⟩) (L.length - 1) cp) (L.eraseIdx i) := by
  have hi := (List.getElem?_eq_some_iff.1 hx).1
  obtain ⟨hgt, hgb⟩ := H.own_ne g rfl
  have kt := H.blk.chg hC (fun e => hgt e.symm)
  have ne : ∀ b l, Bk A b 100 l → b ≠ t := fun b l k e => by
    subst e
    have := bk_ty k H.blk
    cases this
  have hl : (L.eraseIdx i).length = L.length - 1 := by rw [List.length_eraseIdx, if_pos hi]
  refine ⟨kt.set 2 _, .inr ⟨g, cp, by rw [hl], hBg, hR.same (Below.heap_setCell _ _ _ _ hgt)⟩, fun y hy => ?_, asc_del H.asc i, by have := H.len; omega, H.most, H.t0⟩
  have hy' := ((del_mem H.asc hx).1 hy).1
  exact ((H.ents y hy').chg hC (fun e => hgb _ _ (H.ents y hy') e)).other (a := ⟨t, 2, none⟩) (ne _ _ (H.ents y hy')) _
set_option maxHeartbeats 2000000 in
theorem del_any (h : TabIs B w t room v L) (hB : B ≤ w.heap.size) (id : Int) : Calls Tryd.prog 18 #[pT t, .int .u32 id] w (DelR B t room v L id w) := by
  have k4 : Bk (w.alloc (.cells #[.int .i64 0, .string ⟨#[]⟩] 32)) w.heap.size 32 (vL 0) := Bk.new w 32 (vL 0)
  have g4 := (Gr.refl w).alloc (.cells #[.int .i64 0, .string ⟨#[]⟩] 32)
  have H := h.gr g4
  have ht := h.blk.lt
  have hvl := fun g e => (h.sl.lt (g := g) e).1
  have GT := hid0 (get_any H id)
  replace H := hid0 H
  clear h
  go_enter Tryd.func18, Tryd.ntmps18
  go_upto_region 1 with fail
  obtain ⟨b4, e4, h4⟩ : ∃ b, b = w.heap.size ∧ w.heap.size ≤ b := ⟨_, rfl, Nat.le_refl _⟩
  rw [← e4] at k4 ⊢
  clear e4
  generalize w.alloc _ = W at *
  go_upto_region 2 with (go_at_call 35; refine GT.out.mono ?_; rintro e w1 ⟨i, hc, hcase, gG⟩; have HC := hid0 hc; clear hc; have H1 := hid0 (H.out.gr gG); have k41 := k4.gr gG; have g41 := g4.trans gG; rcases hcase with ⟨hth, rfl⟩ | ⟨hth, rfl⟩)
  · have gA := (Gr.refl w1).alloc (.cells #[.int .i64 (valAt L i), .string (sB (valAt L i))] 32)
    have k6 : Bk (w1.alloc (.cells #[.int .i64 (valAt L i), .string (sB (valAt L i))] 32)) w1.heap.size 32 (vL (valAt L i)) := Bk.new w1 32 (vL (valAt L i))
    have HA := hid0 (H1.out.gr gA)
    have k4A := hid0 (k41.gr gA)
    have gwA := hid0 (g41.trans gA)
    have h6 : w.heap.size ≤ w1.heap.size := g41.size
    have h46 : b4 < w1.heap.size := k41.lt
    clear GT H H1 k4 k41 g4 gG g41 gA
    generalize hm : valAt L i = m at *
    replace hm := hid0 hm
    generalize w1.heap.size = b6 at *
    generalize w1.alloc _ = A at *
    have F := hid0 (find_any HA.out id)
    obtain ⟨x, hx, ex⟩ := there_yes hth
    have HX := hid0 hx
    obtain ⟨g, cp, rfl, hBg, hR⟩ : ∃ g cp, v = .slice (some ⟨g, 0, none⟩) L.length cp ∧ B ≤ g ∧ RowG A g cp L := by
      rcases HA.out.sl with ⟨_, rfl⟩ | h
      · simp at hx
      · exact h
    have hi := (List.getElem?_eq_some_iff.1 hx).1
    have hl : L.length ≤ 65536 := Nat.le_trans HA.out.len HA.out.most
    have DR := hid0 (del_raw g cp i L A hR hi hl)
    have c2 := HA.out.c2
    have hg := hvl g rfl
    have tg := HA.out.own_ne g rfl
    rw [show ((i + 1 : Nat) : Int) = (i : Int) + 1 by omega] at DR
    clear hx hR ex
    go_wp2_with fail
    refine F.out.mono ?_
    rintro e w2 ⟨j, hj, rfl, hw⟩
    cases hw
    obtain rfl := hj.uniq HC.out
    clear F hj
    go_wp2_with fail
    refine DR.out.mono ?_
    rintro e w3 ⟨rfl, hR3, hC3⟩
    have kt := HA.out.blk.chg hC3 (fun e => tg.1 e.symm)
    have c3 := kt.at 2
    have f3 := kt.frozen 2
    simp only [List.getElem?_cons_zero, List.getElem?_cons_succ] at c3
    have TX := hid0 (HA.out.del_ok hC3 hR3 hBg HX.out)
    have CX := hid0 (((Chg.of_gr (p := tP t (.slice (some ⟨g, 0, none⟩) L.length cp)) gwA.out).trans (hC3.wide (q := tP t (.slice (some ⟨g, 0, none⟩) L.length cp)) (fun k _ e => .inr (by rw [e]; rfl)))).trans (Chg.set (p := tP t (.slice (some ⟨g, 0, none⟩) L.length cp)) w3 (a := ⟨t, 2, none⟩) (.inl rfl) (.slice (some ⟨g, 0, none⟩) (L.length - 1) cp)))
    have k4X := (k4A.out.chg hC3 (by omega)).other (a := ⟨t, 2, none⟩) (by show b4 ≠ t; omega) (.slice (some ⟨g, 0, none⟩) (L.length - 1) cp)
    have k6X := (k6.chg hC3 (by omega)).other (a := ⟨t, 2, none⟩) (by show b6 ≠ t; omega) (.slice (some ⟨g, 0, none⟩) (L.length - 1) cp)
    clear DR HA k4A k6 gwA kt hR3 hC3 c2
    go_upto_region 5 with fail
    clear c3 f3
    generalize World.setCell _ _ _ = X at *
    have f0 := k4X.frozen 0
    have f1 := k4X.frozen 1
    obtain ⟨p0, p1⟩ := vcells k4X
    obtain ⟨q0, q1⟩ := vcells k6X
    replace k4X := hid0 k4X
    clear k6X
    go_wp2
    have k2 := k4X.out.setv (m := m)
    have ch : Chg (fun k => k = b4) X ((X.setCell ⟨b4, 0, none⟩ (.int .i64 m)).setCell ⟨b4, 1, none⟩ (.string (sB m))) := (Chg.set (p := fun k => k = b4) X (a := ⟨b4, 0, none⟩) rfl _).trans (Chg.set (p := fun k => k = b4) _ (a := ⟨b4, 1, none⟩) rfl _)
    have T2 := hid0 (TX.out.chg ch (by omega) (fun g' e => by cases e; show g ≠ b4; omega) (fun y hy e => by have := bk_ty (TX.out.ents y hy) (e ▸ k4X.out); cases this))
    have C2 := hid0 (CX.out.next ch (fun j hj e => by omega))
    generalize World.setCell _ _ _ = Y at *
    obtain ⟨q0, q1⟩ := vcells k2
    exact bodyPost_ret (v := .tuple #[vV m, .bool true]) (by simp [results, Tryd.results18, go_sem, q0, q1]) rfl ⟨j, HC.out, C2.out, .inl ⟨hth, by rw [hm.out], _, T2.out, rfl⟩⟩
  · have gA := (Gr.refl w1).alloc (.cells #[.int .i64 0, .string (sB 0)] 32)
    have k6 : Bk (w1.alloc (.cells #[.int .i64 0, .string (sB 0)] 32)) w1.heap.size 32 (vL 0) := Bk.new w1 32 (vL 0)
    have HA := hid0 (H1.out.gr gA)
    have k4A := hid0 (k41.gr gA)
    have gwA := hid0 (g41.trans gA)
    clear GT H H1 k4 k41 g4 gG g41 gA
    generalize w1.heap.size = b6 at *
    generalize w1.alloc _ = A at *
    have f0 := k4A.out.frozen 0
    have f1 := k4A.out.frozen 1
    obtain ⟨p0, p1⟩ := vcells k4A.out
    obtain ⟨q0, q1⟩ := vcells k6
    clear k6
    go_wp2
    have k2 := k4A.out.setv (m := 0)
    have ch : Chg (fun k => k = b4) A ((A.setCell ⟨b4, 0, none⟩ (.int .i64 0)).setCell ⟨b4, 1, none⟩ (.string (sB 0))) := (Chg.set (p := fun k => k = b4) A (a := ⟨b4, 0, none⟩) rfl _).trans (Chg.set (p := fun k => k = b4) _ (a := ⟨b4, 1, none⟩) rfl _)
    have T2 := hid0 (HA.out.chg ch (by omega) (fun g e => by have := hvl g e; omega) (fun y hy e => by have := bk_ty (HA.out.ents y hy) (e ▸ k4A.out); cases this))
    have C2 := hid0 ((Chg.of_gr (p := tP t v) gwA.out).next ch (fun j hj e => by omega))
    generalize World.setCell _ _ _ = Y at *
    obtain ⟨q0, q1⟩ := vcells k2
    exact bodyPost_ret (v := .tuple #[vV 0, .bool false]) (by simp [results, Tryd.results18, go_sem, q0, q1]) rfl ⟨i, HC.out, C2.out, .inr ⟨hth, rfl, T2.out⟩⟩
end
end Go.Proofs.YtjnjpjpgokdciaaDoor
