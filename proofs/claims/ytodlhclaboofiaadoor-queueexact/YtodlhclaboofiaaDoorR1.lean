/- The document's ring in memory: its list, its books; copied. -/
import Derived.Test.YtodlhclaboofiaaDoorQa
import Derived.Test.YtodlhclaboofiaaDoorHd
import Derived.IntWalk
import Derived.OwnWalk
import Derived.Laws.OwnMore
import Derived.Laws.CopyOwn
import Derived.Deep.LoopGhost
import Derived.Deep.CutBlock
set_option linter.unusedSimpArgs false
set_option linter.unusedVariables false
namespace Go.Proofs.YtodlhclaboofiaaDoor
open Go.RowKit Go.Sort

/-- A slice that reads the numbers L. -/
def Lst (w : World) (v : Value) (L : List Int) : Prop := ∃ ao cap, v = .slice ao L.length cap ∧ L.length ≤ cap ∧ (L = [] ∨ ∃ b off cur, ao = some ⟨b, off, none⟩ ∧ w.heap[b]? = some (.cells cur 3 (0, 0)) ∧ ∀ i x, L[i]? = some x → cur[off + i]? = some (.int .i64 x))
theorem Lst.chg {p : Nat → Prop} {w w' : World} {v : Value} {L : List Int} (h : Lst w v L) (g : Chg p w w') (hp : ∀ b cur, p b → w.heap[b]? ≠ some (.cells cur 3 (0, 0))) : Lst w' v L := by
  obtain ⟨ao, cap, e, hc, h⟩ := h
  refine ⟨ao, cap, e, hc, ?_⟩
  rcases h with h | ⟨b, off, cur, e2, h1, h2⟩
  · exact .inl h
  · exact .inr ⟨b, off, cur, e2, (g.block b (lt_of_block h1) (fun hb => hp b cur hb h1)).trans h1, h2⟩
theorem Lst.below {w w' : World} {v : Value} {L : List Int} (h : Lst w v L) (g : Below w.heap.size w w') : Lst w' v L := h.chg (p := fun _ => False) (.of_below g) (fun _ _ h => h.elim)
theorem Lst.gr {w w' : World} {v : Value} {L : List Int} (h : Lst w v L) (g : Gr w w') : Lst w' v L := h.below g.below
theorem Lst.set {w : World} {v : Value} {L : List Int} (h : Lst w v L) {a : Addr} {t : TypeId} {l : List Value} (hb : Bk w a.block t l) (ht : t ≠ 3) (z : Value) : Lst (w.setCell a z) v L :=
  h.chg (p := fun k => k = a.block) (Chg.set (p := fun k => k = a.block) (a := a) w rfl z) (fun b cur hb2 h2 => by
    subst hb2
    unfold Bk at hb
    rw [hb] at h2
    cases h2
    exact ht rfl)
theorem Lst.at {w : World} {ao : Option Addr} {len cap : Nat} {L : List Int} (h : Lst w (.slice ao len cap) L) {i : Nat} {x : Int} (hx : L[i]? = some x) : len = L.length ∧ ∃ b off, ao = some ⟨b, off, none⟩ ∧ w.cell? ⟨b, off + i, none⟩ = some (.int .i64 x) := by
  obtain ⟨ao', cap', e, hc, h⟩ := h
  cases e
  refine ⟨rfl, ?_⟩
  rcases h with h | ⟨b, off, cur, rfl, h1, h2⟩
  · rw [h] at hx; cases hx
  · exact ⟨b, off, rfl, by simp [World.cell?, h1, h2 i x hx]⟩
theorem Lst.of_own {w : World} {base : Nat} {v : Value} {L : List Int} (h : w.ownsRow base 3 1 v L.length (L.map (Value.int .i64))) : Lst w v L := by
  obtain ⟨hl, h⟩ := h
  rcases h with ⟨rfl, h0⟩ | ⟨g, cap, cur, rfl, _, hg, hn, hc, hs, ht⟩
  · exact ⟨none, 0, by rw [h0], by omega, .inl (List.length_eq_zero_iff.1 h0)⟩
  · refine ⟨_, cap, rfl, hn, .inr ⟨g, 0, cur, rfl, hg, fun i x hx => ?_⟩⟩
    have hi := (List.getElem?_eq_some_iff.1 hx).1
    have : (L.map (Value.int .i64))[i]? = some (.int .i64 x) := by rw [List.getElem?_map, hx]; rfl
    rw [← ht, List.getElem?_take, if_pos (by omega)] at this
    rw [Nat.zero_add]
    simpa using this
theorem Lst.drop {w : World} {ao : Option Addr} {n cap : Nat} {L : List Int} (h : Lst w (.slice ao n cap) L) (k : Nat) (hk : k ≤ L.length) : Lst w (.slice (if cap = k then ao else Option.map (fun x => x.add k) ao) (n - k) (cap - k)) (L.drop k) := by
  obtain ⟨ao', cap', e, hc, h⟩ := h
  cases e
  refine ⟨_, _, by rw [List.length_drop], by rw [List.length_drop]; omega, ?_⟩
  rcases h with h | ⟨b, off, cur, rfl, h1, h2⟩
  · exact .inl (by rw [h]; simp)
  · by_cases e : k = L.length
    · exact .inl (by rw [e]; simp)
    · refine .inr ⟨b, off + k, cur, ?_, h1, fun i x hx => ?_⟩
      · rw [if_neg (by omega)]
        simp only [Option.map_some]
        congr 1
        unfold Addr.add
        split <;> simp_all
      · rw [List.getElem?_drop] at hx
        rw [Nat.add_assoc]
        exact h2 _ x hx
/-- A row of one's own with a place turned. -/
theorem Lst.put {w : World} {base : Nat} {v : Value} {L : List Int} (h : w.ownsRow base 3 1 v L.length (L.map (Value.int .i64))) {i : Nat} (hi : i < L.length) :
    ∃ g cap, v = .slice (some ⟨g, 0, none⟩) L.length cap ∧ base ≤ g ∧ (∃ y, w.cell? ⟨g, i, none⟩ = some (.int .i64 y)) ∧ w.frozen? ⟨g, i, none⟩ = false ∧ ∀ x, Lst (w.setCell ⟨g, i, none⟩ (.int .i64 x)) v (L.set i x) := by
  have hl := Lst.of_own h
  obtain ⟨_, h⟩ := h
  rcases h with ⟨rfl, h0⟩ | ⟨g, cap, cur, rfl, hb, hg, hn, hc, hs, ht⟩
  · omega
  · refine ⟨g, cap, rfl, hb, ?_, by simp [World.frozen?, hg], fun x => ⟨_, cap, by rw [List.length_set], by rw [List.length_set]; exact hn, .inr ⟨g, 0, cur.setIfInBounds i (.int .i64 x), rfl, ?_, fun j y hy => ?_⟩⟩⟩
    · obtain ⟨_, b, off, e, hc⟩ := hl.at (List.getElem?_eq_getElem hi)
      cases e
      rw [Nat.zero_add] at hc
      exact ⟨_, hc⟩
    · have hgl := (Array.getElem?_eq_some_iff.1 hg).2
      simp [World.setCell, (Array.getElem?_eq_some_iff.1 hg).1, Array.getElem_modify, hgl]
    · have hj := (List.getElem?_eq_some_iff.1 hy).1
      rw [List.length_set] at hj
      rw [Nat.zero_add]
      by_cases e : i = j
      · subst e
        rw [List.getElem?_set_self hi] at hy
        cases hy
        have : i < cur.size := by omega
        simp [this]
      · rw [List.getElem?_set_ne e] at hy
        rw [Array.getElem?_setIfInBounds_ne e]
        have h3 : (L.map (Value.int .i64))[j]? = some (.int .i64 y) := by rw [List.getElem?_map, hy]; rfl
        rw [← ht, List.getElem?_take, if_pos (by omega)] at h3
        simpa using h3
/-- What is copied: k places, but one. -/
def cpL (L : List Int) (but : Int) (k : Nat) : List Int := ((List.range k).filter fun i : Nat => decide ((i : Int) ≠ but)).map fun i => L.getD i 0
theorem cpL_zero (L : List Int) (but : Int) : cpL L but 0 = [] := rfl
theorem cpL_yes (L : List Int) (but : Int) (k : Nat) (h : (k : Int) ≠ but) : cpL L but (k + 1) = cpL L but k ++ [L.getD k 0] := by
  unfold cpL
  rw [List.range_succ, List.filter_append, List.map_append]
  simp [h]
theorem cpL_no (L : List Int) (but : Int) (k : Nat) (h : (k : Int) = but) : cpL L but (k + 1) = cpL L but k := by
  unfold cpL
  rw [List.range_succ, List.filter_append, List.map_append]
  simp [h]
theorem cpL_len (L : List Int) (but : Int) (k : Nat) : (cpL L but k).length ≤ k := by
  unfold cpL
  rw [List.length_map]
  exact Nat.le_trans (List.length_filter_le _ _) (by simp)
theorem cpL_take (L : List Int) (but : Int) : ∀ k, k ≤ L.length → (∀ i, i < k → (i : Int) ≠ but) → cpL L but k = L.take k
  | 0, _, _ => rfl
  | k + 1, h, hb => by
    rw [cpL_yes L but k (hb k (by omega)), cpL_take L but k (by omega) (fun i hi => hb i (by omega)), List.take_add_one, List.getElem?_eq_getElem (by omega : k < L.length), List.getD_eq_getElem?_getD, List.getElem?_eq_getElem (by omega : k < L.length)]
    rfl
theorem cpL_all (L : List Int) (but : Int) (h : but < 0) : cpL L but L.length = L := by
  rw [cpL_take L but L.length (Nat.le_refl _) (fun i _ => by omega), List.take_length]
theorem cpL_erase (L : List Int) (i : Nat) (hi : i < L.length) : cpL L (i : Int) L.length = L.eraseIdx i := by
  have key : ∀ k, i < k → k ≤ L.length → cpL L (i : Int) k = L.take i ++ (L.take k).drop (i + 1) := by
    intro k
    induction k with
    | zero => intro h _; omega
    | succ k ih =>
      intro h1 h2
      by_cases e : k = i
      · subst e
        rw [cpL_no L _ k rfl, cpL_take L _ k (by omega) (fun j hj => by omega)]
        rw [List.drop_of_length_le (by simp; omega), List.append_nil]
      · rw [cpL_yes L _ k (by omega), ih (by omega) (by omega), List.append_assoc]
        congr 1
        rw [List.take_add_one, List.getElem?_eq_getElem (by omega : k < L.length), List.getD_eq_getElem?_getD, List.getElem?_eq_getElem (by omega : k < L.length)]
        rw [List.drop_append_of_le_length (by simp; omega)]
        rfl
  rw [key L.length hi (Nat.le_refl _), List.take_length, List.eraseIdx_eq_take_drop_succ]
theorem Tryd.info3 : (Tryd.prog.info? 3).map (fun i => (i.zero, i.size, i.bytes)) = some (some (.int .i64 0), 1, 8) := by kernel_rfl
theorem one_cells (W : World) (t : TypeId) (x : Value) : ∀ j u, [x][j]? = some u → (W.alloc (.cells #[x] t)).cell? ((⟨W.heap.size, 0, none⟩ : Addr).add j) = some u := fun j u hu => by
  have := (Bk.new W t [x]).at 0
  match j, hu with
  | 0, hu =>
    simp at hu
    subst hu
    simp [Addr.add]
theorem own_ge {w : World} {base e k : Nat} {v : Value} {xs : List Value} (h : w.ownsRow base e 1 v k xs) (r : Nat) (hr : v.ownBlock = some r) : base ≤ r := by
  obtain ⟨_, h⟩ := h
  rcases h with ⟨rfl, _⟩ | ⟨g, cap, cur, rfl, hb, _⟩
  · cases hr
  · cases hr; exact hb
theorem own_kept {w w' : World} {base e k : Nat} {v : Value} {xs : List Value} (h : w.ownsRow base e 1 v k xs) (g : Gr w w') : w'.ownsRow base e 1 v k xs := h.kept g.grownBy (by cases v.ownBlock <;> simp)
set_option maxHeartbeats 2000000 in
theorem copied_any (v : Value) (L : List Int) (but : Int) (w : World) (h : Lst w v L) (hL : L.length ≤ 65536) :
    Calls Tryd.prog 54 #[v, .int .i64 but] w fun e w' => ∃ v', e = .returned v' ∧ w'.ownsRow w.heap.size 3 1 v' (cpL L but L.length).length ((cpL L but L.length).map (Value.int .i64)) ∧ Below w.heap.size w w' := by
  obtain ⟨i0, hi, hz0, hz1, hz2⟩ := info_parts Tryd.info3
  have H := hid0 h
  obtain ⟨ao, cap, rfl, _⟩ := h
  go_enter Tryd.func54, Tryd.ntmps54
  go_wp2
  go_loopg [5, 6] L.length (fun gk sv i wr => ∃ (k : Nat), i = .int .i64 (k : Int) ∧ k ≤ L.length ∧ gk = L.length - k ∧ Hid (wr.ownsRow w.heap.size 3 1 sv (cpL L but k).length ((cpL L but k).map (Value.int .i64))) ∧ Hid (Below w.heap.size w wr))
  case atStart => exact ⟨0, rfl, Nat.zero_le _, rfl, World.ownsRow_nil _ _ _ _, Below.refl _ _⟩
  case round =>
    obtain ⟨k, rfl, hk, rfl, OW, BB⟩ := hrel
    by_cases ck : k < L.length
    · have ck' : (k : Int) < (L.length : Int) := by omega
      have hk6 : (k : Int) ≤ 65536 := by omega
      by_cases cb : (k : Int) = but
      · have cb' : ((k : Int) != but) = false := by simpa using cb
        have E := hid0 (cpL_no L but k cb)
        clear cb
        go_wp2
        go_roundg (L.length - (k + 1))
        case measure => omega
        case rel => exact ⟨k + 1, by simp, by omega, rfl, by rw [E.out]; exact OW, BB⟩
      · have cb' : ((k : Int) != but) = true := by simpa using cb
        have E := hid0 (cpL_yes L but k cb)
        clear cb
        obtain ⟨x, hx⟩ : ∃ x, L[k]? = some x := ⟨_, List.getElem?_eq_getElem ck⟩
        have hgd : L.getD k 0 = x := by rw [List.getD_eq_getElem?_getD, hx]; rfl
        rw [hgd] at E
        obtain ⟨_, b, off, rfl, ce⟩ := (H.out.below BB.out).at hx
        have hlen := cpL_len L but k
        have HS : Hid (w.heap.size ≤ wr.heap.size) := BB.out.size
        clear hx hgd
        go_wp2_with (at_builtin; refine wpList_append_own _ rfl (.tmp 16) (.tmp 21) 47 rfl w.heap.size 3 i0 (.int .i64 0) 1 8 Tryd.underlying47 hi hz0 hz1 hz2 rfl (by decide) _ (cpL L but k).length _ rfl ((own_kept OW.out ((Gr.refl _).alloc _))) ⟨wr.heap.size, 0, none⟩ 1 1 [.int .i64 x] rfl rfl (one_cells _ _ _) (fun u hu => by simp at hu; subst hu; rfl) (by unfold maxLen; omega) (by omega) (by have := HS.out; simp; omega) ?_)
        intro sv' w1 hown' hgrow _
        have OW2 : Hid (w1.ownsRow w.heap.size 3 1 sv' (cpL L but (k + 1)).length ((cpL L but (k + 1)).map (Value.int .i64))) := by
          rw [E.out, List.length_append, List.map_append]
          exact hown'
        have B1 : Below w.heap.size w (wr.alloc (.cells #[.int .i64 x] 3)) := BB.out.alloc (by have := HS.out; omega) _
        have BB2 : Hid (Below w.heap.size w w1) := B1.grown hgrow B1.size (fun r e => own_ge OW.out r e)
        obtain ⟨aa, cc, rfl⟩ : ∃ aa cc, sv' = .slice aa (cpL L but (k + 1)).length cc := by
          obtain ⟨a1, c1, e1, _⟩ := Lst.of_own OW2.out
          exact ⟨a1, c1, e1⟩
        clear hown' hgrow OW BB B1 ce E
        go_wp2
        go_roundg (L.length - (k + 1))
        case measure => omega
        case rel => exact ⟨k + 1, by simp, by omega, rfl, OW2, BB2⟩
    · have ck' : ¬ (k : Int) < (L.length : Int) := by omega
      obtain rfl : k = L.length := by omega
      go_wp2
      go_ret
      exact ⟨_, rfl, OW.out, BB.out⟩
end Go.Proofs.YtodlhclaboofiaaDoor
