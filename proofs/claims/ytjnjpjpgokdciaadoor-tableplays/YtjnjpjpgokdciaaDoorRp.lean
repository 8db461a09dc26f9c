/- The document's own table: Copy, Del, Put. -/
import Derived.Test.YtjnjpjpgokdciaaDoorRg
set_option linter.unusedSimpArgs false
set_option linter.unusedVariables false
namespace Go.Proofs.YtjnjpjpgokdciaaDoor
open Go.RowKit Go.Sort Go.Shelf

theorem cP_take : ∀ (l : List En) (i : Nat), (cP l).take (i * 2) = cP (l.take i)
  | [], i => by simp [cP]
  | x :: l, 0 => by simp [cP]
  | x :: l, i + 1 => by
    have := cP_take l i
    rw [show (i + 1) * 2 = i * 2 + 1 + 1 by omega]
    simp only [cP, List.flatMap_cons, List.cons_append, List.nil_append, List.take_succ_cons] at this ⊢
    rw [this]
theorem cP_drop : ∀ (l : List En) (i : Nat), (cP l).drop (i * 2) = cP (l.drop i)
  | [], i => by simp [cP]
  | x :: l, 0 => by simp [cP]
  | x :: l, i + 1 => by
    have := cP_drop l i
    rw [show (i + 1) * 2 = i * 2 + 1 + 1 by omega]
    simp only [cP, List.flatMap_cons, List.cons_append, List.nil_append, List.drop_succ_cons] at this ⊢
    rw [this]
theorem cP_one : ∀ (l : List En) (u : Value), u ∈ cP l → u.oneCell' = true := by
  intro l u h
  simp only [cP, List.mem_flatMap] at h
  obtain ⟨x, _, h⟩ := h
  simp only [List.mem_cons, List.not_mem_nil, or_false] at h
  rcases h with rfl | rfl <;> rfl
/-- A part of a row, as a source. -/
theorem src_of {W : World} {B g n c : Nat} {l : List En} (h : OwnP W B (.slice (some ⟨g, 0, none⟩) n c) l) (i k : Nat) : ∀ (j : Nat) (u : Value), (cP ((l.drop i).take k))[j]? = some u → W.cell? ((⟨g, i * 2, none⟩ : Addr).add j) = some u := by
  intro j u hj
  rw [add_none0]
  have hj2 : (cP l)[i * 2 + j]? = some u := by
    rw [← cP_take, List.getElem?_take] at hj
    split at hj
    · rw [← cP_drop, List.getElem?_drop] at hj
      exact hj
    · cases hj
  have := h.cells (g := g) rfl (i * 2 + j) u hj2
  rw [add_none0] at this
  rw [← this]
  simp
theorem OwnP.cases {W : World} {B : Nat} {v : Value} {l : List En} (h : OwnP W B v l) : (v = .slice none 0 0 ∧ l = []) ∨ ∃ g cap, v = .slice (some ⟨g, 0, none⟩) l.length cap ∧ l.length ≤ cap ∧ B ≤ g ∧ g < W.heap.size := by
  have hlt := fun g e => h.lt g e
  rcases h.2 with ⟨rfl, hn⟩ | ⟨g, cap, cur, rfl, hg, hh, hle, hm, hs, ht⟩
  · exact .inl ⟨rfl, List.eq_nil_of_length_eq_zero hn⟩
  · exact .inr ⟨g, cap, rfl, hle, hg, (hlt g rfl).2⟩
section
variable {B : Nat} {w : World} {r room : Nat} {v : Value} {L : List En}
theorem copy_any (h : RTab B w r room v L) (hl : L.length ≤ 65536) : Calls Tryd.prog 10 #[pT r] w fun e w' => ∃ u, e = .returned u ∧ OwnP w' w.heap.size u L ∧ Below w.heap.size w w' := by
  obtain ⟨i0, hi0, hz0, hz1, hz2⟩ := info_parts Tryd.info109
  have c1 := h.c1
  rcases OwnP.cases h.own with ⟨rfl, rfl⟩ | ⟨g, cap, rfl, hle, hB, hg⟩
  · clear h
    go_enter Tryd.func10, Tryd.ntmps10
    go_wp2
    go_ret
    exact ⟨_, rfl, World.ownsRow_nil _ _ _ _, (Gr.refl w).below⟩
  · have SR := hid0 (src_of h.own 0 L.length)
    have EQ : Hid ((L.drop 0).take L.length = L) := by simp [Hid]
    have hcl : Hid ((cP L).length = L.length * 2) := cP_len L
    rw [EQ.out] at SR
    clear h
    go_enter Tryd.func10, Tryd.ntmps10
    go_wp2_with (at_builtin; refine wpList_append_own_at _ rfl (.tmp 4) (.tmp 8) 35 rfl w.heap.size 109 i0 (.agg #[.int .u32 0, .int .i64 0]) 2 16 Tryd.underlying35 hi0 hz0 hz1 hz2 rfl (by decide) (.slice none 0 0) 0 [] rfl (World.ownsRow_nil _ _ _ _) ⟨g, 0 * 2, none⟩ L.length cap (cP L) rfl hcl.out SR.out (cP_one L) (by unfold maxLen; omega) (by omega) (Nat.le_refl _) ?_; intro v' w1 hown' hgrow _ hat)
    rw [Nat.zero_add, List.nil_append] at hown'
    have HO := hid0 hown'
    have HG : Hid (Below w.heap.size w w1) := (Chg.grown0 hgrow).below (Nat.le_refl _) (fun k e => by cases e)
    clear hown' hgrow hat
    go_wp2
    go_ret
    exact ⟨_, rfl, HO.out, HG.out⟩
def RDelR (B r room : Nat) (v : Value) (L : List En) (id : Int) (w : World) (e : Ending) (w' : World) : Prop :=
  ∃ i, Cut L id i ∧ ((there L id i = true ∧ e = .returned (.tuple #[.int .i64 (valAt L i), .bool true]) ∧ (∃ v', RTab B w' r room v' (L.eraseIdx i) ∧ NewRow w v v') ∧ Chg (fun k => k = r) w w') ∨
    (there L id i = false ∧ e = .returned (.tuple #[.int .i64 0, .bool false]) ∧ Gr w w'))
set_option maxHeartbeats 2000000 in
set_option maxRecDepth 100000 in
theorem rdel_any (h : RTab B w r room v L) (hB : B ≤ w.heap.size) (hA : Asc L) (hl : L.length ≤ 65536) (id : Int) : Calls Tryd.prog 42 #[pT r, .int .u32 id] w (RDelR B r room v L id w) := by
  obtain ⟨i0, hi0, hz0, hz1, hz2⟩ := info_parts Tryd.info109
  have AT := hid0 (at_any h hA hl id)
  have H := hid0 h
  clear h
  go_enter Tryd.func42, Tryd.ntmps42
  go_wp2_with fail
  refine AT.out.mono ?_
  rintro e w1 ⟨i, hc, rfl, g1⟩
  have HC := hid0 hc
  have G1 := hid0 g1
  have H1 := hid0 (H.out.gr g1)
  have c1 := (H.out.gr g1).c1
  have f1 := (H.out.gr g1).blk.frozen 1
  clear hc g1 AT H
  cases hth : there L id i with
  | false =>
    go_wp2
    go_ret2
    exact ⟨i, HC.out, .inr ⟨hth, rfl, G1.out⟩⟩
  | true =>
    obtain ⟨x, hx, ex⟩ := there_yes hth
    have hi := (List.getElem?_eq_some_iff.1 hx).1
    have hi' : (i : Int) < (L.length : Int) := by omega
    have hi2 : (i : Int) + 1 ≤ (L.length : Int) := by omega
    have hi3 : i + 1 ≤ L.length := by omega
    have hi4 : i ≤ L.length := by omega
    have ev : Hid (valAt L i = x.2.1) := by simp [Hid, valAt, List.getD, hx]
    rcases OwnP.cases H1.out.own with ⟨rfl, rfl⟩ | ⟨g, cap, rfl, hle, hBg, hg⟩
    · simp at hx
    have hic : i ≤ cap := by omega
    have hic2 : (i : Int) ≤ (cap : Int) := by omega
    obtain ⟨e0, e1⟩ := cP_at hx
    have q1 := H1.out.own.cells (g := g) rfl (i * 2 + 1) _ e1
    rw [add_none0, Nat.zero_add] at q1
    have SR1 := hid0 (src_of H1.out.own 0 i)
    rw [List.drop_zero] at SR1
    have L1 : Hid ((cP (L.take i)).length = i * 2) := by simp only [Hid, cP_len, List.length_take]; omega
    clear e0 e1 hx
    have hw1 : w.heap.size ≤ w1.heap.size := G1.out.size
    have hrw : r < w1.heap.size := H1.out.blk.lt
    go_wp2_with (at_builtin; refine wpList_append_own_at _ rfl (.tmp 26) (.tmp 32) 35 rfl B 109 i0 (.agg #[.int .u32 0, .int .i64 0]) 2 16 Tryd.underlying35 hi0 hz0 hz1 hz2 rfl (by decide) (.slice none 0 0) 0 [] rfl (World.ownsRow_nil _ _ _ _) ⟨g, 0 * 2, none⟩ i cap (cP (L.take i)) rfl L1.out SR1.out (cP_one _) (by unfold maxLen; omega) (by omega) (by omega) ?_)
    intro v1 w2 hown1 hgrow1 _ hat1
    have hown1 : OwnP w2 B v1 (L.take i) := by
      have : w2.ownsRow B 109 2 v1 i (cP (L.take i)) := by simpa using hown1
      show w2.ownsRow B 109 2 v1 (L.take i).length (cP (L.take i))
      rw [List.length_take, Nat.min_eq_left (by omega)]
      exact this
    have C2 : Chg (fun _ => False) w1 w2 := Chg.grown0 hgrow1
    have hs2 := C2.size
    have H2 := hid0 (H1.out.chg C2 (fun e => e) (fun g _ e => e))
    have c2 := H2.out.c1
    have f2 := H2.out.blk.frozen 1
    have hlow1 : ∀ g, v1.ownBlock = some g → w1.heap.size ≤ g := fun g e => by
      rcases hat1 with h | h
      · rw [h] at e; cases e
      · rw [h] at e; cases e; exact Nat.le_refl _
    have SR2 := hid0 (src_of H2.out.own (i + 1) (L.length - (i + 1)))
    rw [List.take_of_length_le (by simp)] at SR2
    have L2 : Hid ((cP (L.drop (i + 1))).length = (L.length - (i + 1)) * 2) := by simp [Hid, cP_len]
    obtain ⟨ad, had, SRA⟩ : ∃ ad : Addr, (if cap = i + 1 then some (⟨g, 0, none⟩ : Addr) else some ⟨g, (i + 1) * 2, none⟩) = some ad ∧ Hid (∀ (j : Nat) (u : Value), (cP (L.drop (i + 1)))[j]? = some u → w2.cell? (ad.add j) = some u) := by
      by_cases hcc : cap = i + 1
      · refine ⟨⟨g, 0, none⟩, if_pos hcc, fun j u hj => ?_⟩
        rw [List.drop_eq_nil_of_le (by omega)] at hj
        simp [cP] at hj
      · exact ⟨_, if_neg hcc, SR2.out⟩
    have HAD := hid0 had
    clear had
    clear c1 f1 q1 hgrow1 hat1
    have HO1 : Hid (w2.ownsRow B 109 2 v1 i (cP (L.take i))) := by
      have h : w2.ownsRow B 109 2 v1 (L.take i).length (cP (L.take i)) := hown1
      rw [List.length_take, Nat.min_eq_left (by omega)] at h
      exact h
    clear hown1
    go_wp2_with (at_builtin; refine wpList_append_own_at _ rfl (.tmp 35) (.tmp 42) 35 rfl B 109 i0 (.agg #[.int .u32 0, .int .i64 0]) 2 16 Tryd.underlying35 hi0 hz0 hz1 hz2 rfl (by decide) v1 i (cP (L.take i)) rfl HO1.out ad (L.length - (i + 1)) (cap - (i + 1)) (cP (L.drop (i + 1))) (congrArg (fun a => Value.slice a (L.length - (i + 1)) (cap - (i + 1))) HAD.out) L2.out SRA.out (cP_one _) (by unfold maxLen; omega) (by omega) (by omega) ?_)
    all_goals
      intro v2 w3 hown2 hgrow2 _ hat3
      have C3 : Chg (fun k => v1.ownBlock = some k) w2 w3 := Chg.grownR hgrow2
      have C13 : Chg (fun _ => False) w1 w3 := C2.next C3 (fun j hj e => by have := hlow1 j e; omega)
      have hown2 : OwnP w3 B v2 (L.eraseIdx i) := by
        rw [del_eq]
        show w3.ownsRow B 109 2 v2 (L.take i ++ L.drop (i + 1)).length (cP (L.take i ++ L.drop (i + 1)))
        rw [cP_app, show (L.take i ++ L.drop (i + 1)).length = i + (L.length - (i + 1)) by simp; omega]
        exact hown2
      have k3 := H1.out.blk.chg C13 (fun e => e)
      have f3 := k3.frozen 1
      have c3 := k3.at 1
      simp only [List.getElem?_cons_zero, List.getElem?_cons_succ] at c3
      have hne : ∀ g, v2.ownBlock = some g → g ≠ r := fun g e e2 => by subst e2; have := own_ty hown2 e k3; cases this
      have R4 : Hid (RTab B (w3.setCell ⟨r, 1, none⟩ v2) r room v2 (L.eraseIdx i)) := ⟨k3.set 1 v2, own_keep hown2 (fun g e => Below.heap_setCell _ _ _ _ (hne g e))⟩
      have C4 : Hid (Chg (fun k => k = r) w (w3.setCell ⟨r, 1, none⟩ v2)) := ((Chg.of_gr G1.out).trans (C13.wide (fun _ _ e => e.elim))).trans (Chg.set (p := fun k => k = r) w3 (a := ⟨r, 1, none⟩) rfl v2)
      obtain ⟨ao2, n2, c2', rfl⟩ : ∃ a n c, v2 = .slice a n c := by obtain ⟨a, c, e⟩ := own_slice hown2; exact ⟨a, _, c, e⟩
      have NR : Hid (NewRow w (.slice (some ⟨g, 0, none⟩) L.length cap) (.slice ao2 n2 c2')) := fun g e => by
        rcases hat3 with h | h
        · have := hlow1 g (h ▸ e); exact .inr (by omega)
        · rw [h] at e; cases e; exact .inr (by omega)
      clear hat3 C3 C13 hown2 k3 hne hgrow2 c2 f2 HO1 SR2 H2 H1 C2
      go_wp2
      go_ret2
      exact ⟨i, HC.out, .inl ⟨hth, by rw [ev.out]; rfl, ⟨_, R4.out, NR.out⟩, C4.out⟩⟩
end
end Go.Proofs.YtjnjpjpgokdciaaDoor
