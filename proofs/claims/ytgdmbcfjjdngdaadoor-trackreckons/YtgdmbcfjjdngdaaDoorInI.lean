/- slices.Insert of one row. -/
import Derived.Test.YtgdmbcfjjdngdaaDoorOfI
import Derived.Shelf.Spec.SlicesInsertGrow
import Derived.Laws.AppendOwn
import Derived.Deep.RegionLaw
import Derived.Maps.AppendAt
set_option linter.unusedSimpArgs false
set_option linter.unusedVariables false
namespace Go.Proofs.YtgdmbcfjjdngdaaDoor.TI
open Go.RowKit Go.Sort Go.Shelf Go.Lib

theorem p_info : (Tryd.prog.info? 124).map (fun i => (i.zero, i.size, i.bytes)) = some (some (.pointer none), 1, 8) := by kernel_rfl
theorem RowG.own {w : World} {g cp B : Nat} {L : List En} (h : RowG w g cp L) (hB : B ≤ g) : w.ownsRow B 124 1 (.slice (some ⟨g, 0, none⟩) L.length cp) L.length (pts L) := by
  obtain ⟨r, h, k1, k2⟩ := h
  have hl := pts_len L
  refine ⟨by omega, .inr ⟨g, cp, (pts L ++ r).toArray, rfl, hB, h, by omega, k2, by simp; omega, ?_⟩⟩
  simp [← hl]
theorem row_of_own {w : World} {B : Nat} {v : Value} {L : List En} (h : w.ownsRow B 124 1 v L.length (pts L)) :
    (v = .slice none 0 0 ∧ L = []) ∨ ∃ g cp, v = .slice (some ⟨g, 0, none⟩) L.length cp ∧ B ≤ g ∧ RowG w g cp L := by
  rcases h.2 with ⟨h1, h2⟩ | ⟨g, cap, cur, h1, h2, h3, h4, h5, h6, h7⟩
  · exact .inl ⟨h1, List.eq_nil_of_length_eq_zero h2⟩
  · refine .inr ⟨g, cap, h1, h2, cur.toList.drop L.length, ?_, ?_, h5⟩
    · unfold Bk
      rw [Nat.mul_one] at h7
      rw [h3, ← h7, List.take_append_drop]
    · simp
      omega
theorem Sl.own {B : Nat} {w : World} {v : Value} {L : List En} (h : Sl B w v L) : w.ownsRow B 124 1 v L.length (pts L) := by
  rcases h with ⟨rfl, rfl⟩ | ⟨g, cp, rfl, hB, hR⟩
  · exact World.ownsRow_nil _ _ _ _
  · exact hR.own hB
theorem pts_one (L : List En) : ∀ u ∈ pts L, u.oneCell' = true := by
  intro u hu
  simp only [pts, List.mem_map] at hu
  obtain ⟨x, _, rfl⟩ := hu
  rfl
/-- Several cells of a block. -/
theorem Bk.setCells {b t : Nat} : ∀ (vs : List Value) (o : Nat) (W : World) (l : List Value), Bk W b t l → o + vs.length ≤ l.length → Bk (W.setCells b o vs) b t (l.take o ++ vs ++ l.drop (o + vs.length))
  | [], o, W, l, h, hl => by simp [World.setCells]; exact h
  | v :: r, o, W, l, h, hl => by
    simp only [List.length_cons] at hl
    have h1 := Bk.setCells r (o + 1) (W.setCell ⟨b, o, none⟩ v) (l.set o v) (h.set o v) (by simp; omega)
    have e : (l.set o v).take (o + 1) ++ r ++ (l.set o v).drop (o + 1 + r.length) = l.take o ++ (v :: r) ++ l.drop (o + (v :: r).length) := by
      rw [List.drop_set_of_lt (by omega), List.take_add_one, List.take_set_of_le (by omega), List.getElem?_set_self (by omega)]
      simp [Nat.add_assoc, Nat.add_comm 1 r.length]
    rw [e] at h1
    exact h1
theorem setCells_other {b k : Nat} (hk : k ≠ b) : ∀ (vs : List Value) (o : Nat) (W : World), (W.setCells b o vs).heap[k]? = W.heap[k]?
  | [], o, W => rfl
  | v :: r, o, W => by rw [World.setCells, setCells_other hk r]; exact Below.heap_setCell _ _ _ _ hk
theorem setCells_size {b : Nat} : ∀ (vs : List Value) (o : Nat) (W : World), (W.setCells b o vs).heap.size = W.heap.size
  | [], o, W => rfl
  | v :: r, o, W => by rw [World.setCells, setCells_size r]; simp [World.setCell]
theorem Chg.setCells {p : Nat → Prop} {b : Nat} (hb : p b) : ∀ (vs : List Value) (o : Nat) (W : World), Chg p W (W.setCells b o vs)
  | [], o, W => Chg.refl _ _
  | v :: r, o, W => (Chg.set W (a := ⟨b, o, none⟩) hb v).trans (Chg.setCells hb r (o + 1) _)
theorem bk_shape {W : World} {b t : Nat} {l : List Value} (h : Bk W b t l) : W.shape? b = some (t, l.length) := by
  unfold Bk at h
  simp [World.shape?, h]
/-- What Insert answers: the row of one more. -/
def InsR (B : Nat) (v : Value) (L : List En) (i : Nat) (nb : Nat) (w : World) (e : Ending) (w' : World) : Prop :=
  ∃ g cp, e = .returned (.slice (some ⟨g, 0, none⟩) (L.length + 1) cp) ∧ B ≤ g ∧ (∀ x : En, x.2.2 = nb → RowG w' g cp (ins L i x)) ∧ Chg (fun k => v.ownBlock = some k) w w' ∧ (v.ownBlock = some g ∨ w.heap.size ≤ g)
theorem RowG.congr {w : World} {g cp : Nat} {L M : List En} (h : RowG w g cp L) (e : pts L = pts M) : RowG w g cp M := by
  obtain ⟨r, h, k⟩ := h
  have := congrArg List.length e
  rw [pts_len, pts_len] at this
  exact ⟨r, by rw [← e]; exact h, by rw [← this]; exact k⟩
theorem pts_ins (L : List En) (i : Nat) (x : En) : pts (ins L i x) = (pts L).take i ++ pT x.2.2 :: (pts L).drop i := by simp [pts, ins, List.map_take, List.map_drop]
theorem ins_end (L : List En) (x : En) : ins L L.length x = L ++ [x] := by simp [ins]
set_option maxHeartbeats 2000000 in
set_option maxRecDepth 100000 in
theorem insert_end (B vb nb : Nat) (v : Value) (L : List En) (w : World) (hs : Sl B w v L) (hB : B ≤ w.heap.size) (hl : L.length ≤ 65536) (hv : Bk w vb 124 [pT nb]) :
    Calls Tryd.prog 74 #[v, .int .i64 (L.length : Int), .slice (some ⟨vb, 0, none⟩) 1 1] w (InsR B v L L.length nb w) := by
  obtain ⟨i0, hi, hz0, hz1, hz2⟩ := info_parts p_info
  have own := hs.own
  have hnews : ∀ j u, [pT nb][j]? = some u → w.cell? ((⟨vb, 0, none⟩ : Addr).add j) = some u := fun j u hj => by rw [Addr.add_lit, Nat.zero_add, hv.at]; exact hj
  obtain ⟨ao, c, rfl⟩ := hs.slice
  have hlc : L.length ≤ c := by
    rcases hs with ⟨e, rfl⟩ | ⟨g, cp, e, _, hR⟩
    · simp
    · cases e; exact hR.le.1
  have hlc' : (L.length : Int) ≤ (c : Int) := by omega
  clear hs hv
  generalize hn : L.length = n at *
  have HN := hid0 hn
  clear hn
  by_cases hcn : c = n
  · obtain rfl : n = c := hcn.symm
    go_enter Tryd.func74, Tryd.ntmps74
    go_wp2_with (at_builtin; refine wpList_append_own_at _ rfl (.tmp 23) (.tmp 24) 113 rfl B 124 i0 (.pointer none) 1 8 Tryd.underlying113 hi hz0 hz1 hz2 rfl (by decide) (.slice ao n n) n (pts L) rfl own ⟨vb, 0, none⟩ 1 1 [pT nb] rfl rfl hnews (by simp [Value.oneCell']) (by unfold maxLen; omega) (by omega) hB ?_; intro v' w1 hown hgrow hnil hat)
    obtain ⟨g, cp, rfl, hBg, R⟩ : ∃ g cp, v' = .slice (some ⟨g, 0, none⟩) (n + 1) cp ∧ B ≤ g ∧ RowG w1 g cp (L ++ [(0, 0, nb)]) := by
      rcases row_of_own (L := L ++ [(0, 0, nb)]) (by rw [pts_app]; simp only [List.length_append, List.length_singleton, HN.out]; exact hown) with ⟨e, h⟩ | ⟨g, cp, e, hBg, R⟩
      · simp at h
      · exact ⟨g, cp, by rw [e]; simp [HN.out], hBg, R⟩
    have R := hid0 R
    have C := hid0 (Chg.grownR hgrow)
    have AT : Hid ((Value.slice ao n n).ownBlock = some g ∨ w.heap.size ≤ g) := by
      rcases hat with e | e
      · exact .inl e.symm
      · simp only [Value.ownBlock, Option.some.injEq] at e
        exact .inr (by omega)
    clear hown hgrow hnil hat hnews own
    go_wp2
    go_ret
    refine ⟨g, cp, by rw [HN.out]; rfl, hBg, fun x hx => ?_, C.out, AT.out⟩
    refine R.out.congr ?_
    rw [← HN.out, ins_end, pts_app, pts_app]
    simp [pts, hx]
  · go_enter Tryd.func74, Tryd.ntmps74
    go_wp2_with (at_builtin; refine wpList_append_own_at _ rfl (.tmp 23) (.tmp 24) 113 rfl B 124 i0 (.pointer none) 1 8 Tryd.underlying113 hi hz0 hz1 hz2 rfl (by decide) (.slice ao n c) n (pts L) rfl own ⟨vb, 0, none⟩ 1 1 [pT nb] rfl rfl hnews (by simp [Value.oneCell']) (by unfold maxLen; omega) (by omega) hB ?_; intro v' w1 hown hgrow hnil hat)
    obtain ⟨g, cp, rfl, hBg, R⟩ : ∃ g cp, v' = .slice (some ⟨g, 0, none⟩) (n + 1) cp ∧ B ≤ g ∧ RowG w1 g cp (L ++ [(0, 0, nb)]) := by
      rcases row_of_own (L := L ++ [(0, 0, nb)]) (by rw [pts_app]; simp only [List.length_append, List.length_singleton, HN.out]; exact hown) with ⟨e, h⟩ | ⟨g, cp, e, hBg, R⟩
      · simp at h
      · exact ⟨g, cp, by rw [e]; simp [HN.out], hBg, R⟩
    have R := hid0 R
    have C := hid0 (Chg.grownR hgrow)
    have AT : Hid ((Value.slice ao n c).ownBlock = some g ∨ w.heap.size ≤ g) := by
      rcases hat with e | e
      · exact .inl e.symm
      · simp only [Value.ownBlock, Option.some.injEq] at e
        exact .inr (by omega)
    clear hown hgrow hnil hat hnews own
    go_wp2
    go_ret
    refine ⟨g, cp, by rw [HN.out]; rfl, hBg, fun x hx => ?_, C.out, AT.out⟩
    refine R.out.congr ?_
    rw [← HN.out, ins_end, pts_app, pts_app]
    simp [pts, hx]

set_option maxRecDepth 100000 in
set_option maxHeartbeats 4000000 in
theorem insert_shift (B g cp i vb nb : Nat) (L : List En) (w : World) (hR : RowG w g cp L) (hBg : B ≤ g) (hi : i < L.length) (hc : L.length + 1 ≤ cp) (hl : L.length ≤ 65536) (hv : Bk w vb 124 [pT nb]) (hvb : vb ≠ g) :
    Calls Tryd.prog 74 #[.slice (some ⟨g, 0, none⟩) L.length cp, .int .i64 (i : Int), .slice (some ⟨vb, 0, none⟩) 1 1] w (InsR B (.slice (some ⟨g, 0, none⟩) L.length cp) L i nb w) := by
  obtain ⟨i0, hi0, hz0, hz1, hz2⟩ := info_parts p_info
  have hsz : (Tryd.prog.info? 124).map (·.size) = some 1 := by rw [hi0]; simp [hz1]
  have hc63 : cp ≤ 9223372036854775807 := by have := hR.le.2; unfold maxLen at this; omega
  obtain ⟨rest, kR, hlen, hml⟩ := hR
  have hpl := pts_len L
  have hsh := bk_shape hv
  have hsg := bk_shape kR
  have hov : ∀ lb cb, (callFunc 88 #[.slice (some ⟨vb, 0, none⟩) 1 1, .slice (some ⟨g, i + 1, none⟩) lb cb]).run Tryd.prog w = .ok (.value (.bool false)) w := fun lb cb => by
    rw [run_callFunc_extern Tryd.func88 (by kernel_rfl) (by kernel_rfl) (by kernel_rfl) (e := Extern.SlicesOverlaps.overlaps #[113, 113] #[4]) (by kernel_rfl),
      Lib.run_overlaps_apart w 113 4 124 Tryd.underlying113 1 Tryd.sizeOf124 ⟨vb, 0, none⟩ ⟨g, i + 1, none⟩ 1 1 lb cb hvb 124 124 _ _ hsh hsg (by rw [List.length_append]; omega) (hv.frozen _) (hv.frozen _)]
    rfl
  have hmov : ((pts L).drop i).length = L.length - i := by rw [List.length_drop, hpl]
  have k1 : Bk (w.drew.setCells g (i + 1) ((pts L).drop i)) g 124 ((pts L ++ rest).take (i + 1) ++ (pts L).drop i ++ (pts L ++ rest).drop (i + 1 + ((pts L).drop i).length)) :=
    Bk.setCells _ _ _ _ (kR.gr (Gr.refl w).drew) (by simp [hpl]; omega)
  have k2 : Bk ((w.drew.setCells g (i + 1) ((pts L).drop i)).setCells g i [pT nb]) g 124 ((pts L).take i ++ pT nb :: (pts L).drop i ++ rest.drop 1) := by
    have := Bk.setCells [pT nb] i _ _ k1 (by simp [hpl]; omega)
    have e : ((pts L ++ rest).take (i + 1) ++ (pts L).drop i ++ (pts L ++ rest).drop (i + 1 + ((pts L).drop i).length)).take i ++ [pT nb] ++ ((pts L ++ rest).take (i + 1) ++ (pts L).drop i ++ (pts L ++ rest).drop (i + 1 + ((pts L).drop i).length)).drop (i + [pT nb].length) = (pts L).take i ++ pT nb :: (pts L).drop i ++ rest.drop 1 := by
      have e1 : ((pts L ++ rest).take (i + 1)).length = i + 1 := by simp [hpl]; omega
      have e2 : (pts L ++ rest).take (i + 1) = (pts L).take (i + 1) := List.take_append_of_le_length (by omega)
      have e3 : (pts L ++ rest).drop (i + 1 + ((pts L).drop i).length) = rest.drop 1 := by
        rw [hmov, List.drop_append, List.drop_eq_nil_of_le (by omega), List.nil_append]
        congr 1
        omega
      rw [e3, List.append_assoc (List.take (i + 1) (pts L ++ rest)), List.take_append_of_le_length (by omega), List.take_take, Nat.min_eq_left (by omega), List.length_singleton, List.drop_append_of_le_length (by omega), List.drop_eq_nil_of_le (by omega), List.take_append_of_le_length (l₂ := rest) (show i ≤ (pts L).length by omega)]
      simp
    rw [e] at this
    exact this
  have hcp1 : ∀ ty dc sc, (Builtin.copy_ #[113, 113] ty #[.slice (some ⟨g, i + 1, none⟩) (L.length - i) dc, .slice (some ⟨g, i, none⟩) (L.length + 1 - i) sc]).run Tryd.prog w.drew = .ok (goInt ((pts L).drop i).length) (w.drew.setCells g (i + 1) ((pts L).drop i)) := fun ty dc sc =>
    run_copy_cells w.drew _ _ ty 124 g (i + 1) _ dc ⟨g, i, none⟩ _ sc _ Tryd.underlying113 hsz (by rw [hmov]; simp only [Nat.min_def]; split <;> omega)
      (fun j u hj => by
        rw [Addr.add_lit, (kR.gr (Gr.refl w).drew).at, List.getElem?_append_left (by have := (List.getElem?_eq_some_iff.1 hj).1; rw [List.length_drop] at this; omega)]
        rwa [List.getElem?_drop] at hj)
      (fun j hj => by rw [(kR.gr (Gr.refl w).drew).at, List.getElem?_eq_getElem (by simp [hpl]; omega)]; rfl) (fun j hj => (kR.gr (Gr.refl w).drew).frozen _) (fun u hu => pts_one L u (List.mem_of_mem_drop hu))
  have hcp2 : ∀ ty dc, (Builtin.copy_ #[113, 113] ty #[.slice (some ⟨g, i, none⟩) (L.length + 1 - i) dc, .slice (some ⟨vb, 0, none⟩) 1 1]).run Tryd.prog (w.drew.setCells g (i + 1) ((pts L).drop i)) = .ok (goInt [pT nb].length) ((w.drew.setCells g (i + 1) ((pts L).drop i)).setCells g i [pT nb]) := fun ty dc =>
    run_copy_cells _ _ _ ty 124 g i _ dc ⟨vb, 0, none⟩ 1 1 [pT nb] Tryd.underlying113 hsz (by simp only [Nat.min_def, List.length_singleton]; split <;> omega)
      (fun j u hj => by
        rw [Addr.add_lit, Nat.zero_add]
        have := (hv.gr (Gr.refl w).drew).same (setCells_other hvb ((pts L).drop i) (i + 1) w.drew)
        rw [this.at]; exact hj)
      (fun j hj => by rw [k1.at, List.getElem?_eq_getElem (by simp [hpl] at hj ⊢; omega)]; rfl) (fun j hj => k1.frozen _) (by simp [Value.oneCell'])
  have C : Hid (Chg (fun k => (Value.slice (some ⟨g, 0, none⟩) L.length cp).ownBlock = some k) w ((w.drew.setCells g (i + 1) ((pts L).drop i)).setCells g i [pT nb])) :=
    ((Chg.of_gr (Gr.refl w).drew).trans (Chg.setCells (p := fun k => (Value.slice (some ⟨g, 0, none⟩) L.length cp).ownBlock = some k) (b := g) rfl _ _ _)).trans (Chg.setCells (p := fun k => (Value.slice (some ⟨g, 0, none⟩) L.length cp).ownBlock = some k) (b := g) rfl _ _ _)
  have F : Hid (∀ x : En, x.2.2 = nb → RowG ((w.drew.setCells g (i + 1) ((pts L).drop i)).setCells g i [pT nb]) g cp (ins L i x)) := by
    intro x hx
    refine ⟨rest.drop 1, ?_, ?_, hml⟩
    · rw [pts_ins, hx]; exact k2
    · rw [ins_len L i x (by omega), List.length_drop]; omega
  clear k1 k2 kR hv hsh hsg hmov hpl
  generalize hW1 : w.drew.setCells g (i + 1) ((pts L).drop i) = W1 at *
  generalize hn : L.length = n at *
  have HN := hid0 hn
  clear hn hW1
  have hw1 : IntKind.i64.wrap ((i : Int) + 1) = (i : Int) + 1 := by rw [IntKind.wrap_i64]; omega
  have hb1 : (0 : Int) ≤ (i : Int) + 1 := by omega
  have hin : i ≤ n := by omega
  have hz2 : ¬ ((i : Int) = (n : Int)) := by omega
  have htn : ((i : Int) + 1).toNat = i + 1 := by omega
  have hb2 : ¬ (cp = i + 1) := by omega
  have hb3 : (i : Int) ≤ (n : Int) + 1 := by omega
  have hb4 : ¬ (cp = i) := by omega
  have hb5 : (n : Int) + 1 ≤ (cp : Int) := by omega
  have mixed : Tryd.prog.follows .mixedOrders = true := by kernel_rfl
  go_enter Tryd.func74, Tryd.ntmps74
  go_wp2_with (simp only [hov])
  go_region_law_o (refine step_copy_runI rfl _ _ 113 113 rfl _ _ (by simp [Act.eval, Act.put]) (by simp [Act.eval, Act.put]) (hcp1 _ _ _) ?_)
  go_wp2_with (at_builtin; refine wpList_copy_runI _ rfl _ _ 113 113 rfl _ _ rfl rfl (hcp2 _ _) ?_)
  go_ret
  exact ⟨g, cp, by rw [HN.out]; rfl, hBg, F.out, C.out, .inl rfl⟩
end Go.Proofs.YtgdmbcfjjdngdaaDoor.TI
