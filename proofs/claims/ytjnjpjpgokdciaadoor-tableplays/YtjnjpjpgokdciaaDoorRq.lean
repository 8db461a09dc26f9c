/- The document's own table: Put. -/
import Derived.Test.YtjnjpjpgokdciaaDoorRp
import Derived.Laws.OwnMore
set_option linter.unusedSimpArgs false
set_option linter.unusedVariables false
namespace Go.Proofs.YtjnjpjpgokdciaaDoor
open Go.RowKit Go.Sort Go.Shelf

theorem cP_set : ∀ {L : List En} {i : Nat} {x : En} (hx : L[i]? = some x) (n : Int) (nb : Nat), (cP L).set (i * 2 + 1) (.int .i64 n) = cP (L.set i (x.1, n, nb))
  | [], i, x, hx, n, nb => by simp at hx
  | y :: L, 0, x, hx, n, nb => by simp at hx; subst hx; rfl
  | y :: L, i + 1, x, hx, n, nb => by
    have := cP_set (L := L) (i := i) (x := x) (by simpa using hx) n nb
    rw [show (i + 1) * 2 + 1 = i * 2 + 1 + 1 + 1 by omega]
    show _ :: _ :: (cP L).set (i * 2 + 1) (.int .i64 n) = _
    rw [this]
    rfl
theorem cP_ins (L : List En) (i : Nat) (x : En) : cP (ins L i x) = cP (L.take i) ++ [.int .u32 x.1, .int .i64 x.2.1] ++ cP (L.drop i) := by
  unfold ins
  rw [cP_app]
  simp [cP]
def RPutR (B r room : Nat) (v : Value) (L : List En) (id n : Int) (w : World) (e : Ending) (w' : World) : Prop :=
  ∃ i, Cut L id i ∧ Chg (tP r v) w w' ∧
    ((there L id i = true ∧ e = .returned (.tuple #[.int .i64 (valAt L i), .int .i64 0]) ∧ ∀ nb, RTab B w' r room v (L.set i (id, n, nb))) ∨
     (there L id i = false ∧ room ≤ L.length ∧ e = .returned (.tuple #[.int .i64 0, .int .i64 5]) ∧ RTab B w' r room v L) ∨
     (there L id i = false ∧ L.length < room ∧ e = .returned (.tuple #[.int .i64 0, .int .i64 0]) ∧ ∃ v', (∀ nb, RTab B w' r room v' (ins L i (id, n, nb))) ∧ NewRow w v v'))
section
variable {B : Nat} {w : World} {r room : Nat} {v : Value} {L : List En}
set_option maxRecDepth 100000 in
set_option maxHeartbeats 2000000 in
theorem rput_any (h : RTab B w r room v L) (hB : B ≤ w.heap.size) (hA : Asc L) (hl : L.length ≤ 65536) (id n : Int) : Calls Tryd.prog 40 #[pT r, .int .u32 id, .int .i64 n] w (RPutR B r room v L id n w) := by
  obtain ⟨i0, hi0, hz0, hz1, hz2⟩ := info_parts Tryd.info109
  have AT := hid0 (at_any h hA hl id)
  have H := hid0 h
  clear h
  go_enter Tryd.func40, Tryd.ntmps40
  go_wp2_with fail
  refine AT.out.mono ?_
  rintro e w1 ⟨i, hc, rfl, g1⟩
  have HC := hid0 hc
  have G1 := hid0 g1
  have H1 := hid0 (H.out.gr g1)
  have c0 := (H.out.gr g1).c0
  have c1 := (H.out.gr g1).c1
  have hic := hc.le
  clear hc g1 AT H
  cases hth : there L id i with
  | true =>
    obtain ⟨x, hx, ex⟩ := there_yes hth
    subst ex
    have hi := (List.getElem?_eq_some_iff.1 hx).1
    have hi' : (i : Int) < (L.length : Int) := by omega
    have ev : Hid (valAt L i = x.2.1) := by simp [Hid, valAt, List.getD, hx]
    rcases OwnP.cases H1.out.own with ⟨rfl, rfl⟩ | ⟨g, cap, rfl, hle, hBg, hg⟩
    · simp at hx
    obtain ⟨e0, e1⟩ := cP_at hx
    have q1 := H1.out.own.cells (g := g) rfl (i * 2 + 1) _ e1
    rw [add_none0, Nat.zero_add] at q1
    have f1 := World.ownsRow.frozenAt H1.out.own (i * 2 + 1)
    have hne : r ≠ g := fun e => by subst e; have := own_ty H1.out.own rfl H1.out.blk; cases this
    have R4 : Hid (∀ nb, RTab B (w1.setCell ⟨g, i * 2 + 1, none⟩ (.int .i64 n)) r room (.slice (some ⟨g, 0, none⟩) L.length cap) (L.set i (x.1, n, nb))) := fun nb => by
      refine ⟨H1.out.blk.other (a := ⟨g, i * 2 + 1, none⟩) hne _, ?_⟩
      have := (World.ownsRow.stored H1.out.own (i * 2 + 1) (.int .i64 n)).1
      rw [cP_set hx n nb] at this
      show World.ownsRow _ B 109 2 _ (L.set i (x.1, n, nb)).length _
      rw [List.length_set]
      exact this
    have C4 : Hid (Chg (tP r (.slice (some ⟨g, 0, none⟩) L.length cap)) w (w1.setCell ⟨g, i * 2 + 1, none⟩ (.int .i64 n))) := (Chg.of_gr G1.out).trans (Chg.set (p := tP r (.slice (some ⟨g, 0, none⟩) L.length cap)) w1 (a := ⟨g, i * 2 + 1, none⟩) (.inr rfl) _)
    clear e0 e1 hx H1
    go_wp2
    go_ret2
    exact ⟨i, HC.out, C4.out, .inl ⟨hth, by rw [ev.out]; rfl, R4.out⟩⟩
  | false =>
    have k0 := fun m => below_cell c0 ((Gr.refl w1).drewN m).below
    have k1 := fun m => below_cell c1 ((Gr.refl w1).drewN m).below
    obtain ⟨ao, cap, rfl⟩ := own_slice H1.out.own
    have G2 := hid0 (fun m => (Gr.refl w1).drewN m)
    by_cases hfull : room ≤ L.length
    · have d1 : (room : Int) ≤ (L.length : Int) := by omega
      clear c0 c1
      go_upto_region 6 with fail
      go_quiet (fail)
      go_wp2
      go_ret2
      exact ⟨i, HC.out, (Chg.of_gr G1.out).gr (G2.out _), .inr (.inl ⟨hth, hfull, rfl, H1.out.gr (G2.out _)⟩)⟩
    · have d1 : ¬ (room : Int) ≤ (L.length : Int) := by omega
      have d2 : decide ((L.length : Int) ≥ (room : Int)) = false := decide_eq_false d1
      clear c0 c1
      go_upto_region 6 with fail
      go_quiet (fail)
      have H2 := hid0 (H1.out.gr (G2.out nq))
      have C2 := hid0 ((Chg.of_gr (p := tP r (.slice ao L.length cap)) G1.out).gr (G2.out nq))
      have hs2 : w.heap.size ≤ (w1.drewN nq).heap.size := C2.out.size
      clear H1 k0 k1 G2 G1
      generalize w1.drewN nq = w2 at *
      have c1 := H2.out.c1
      have f1 := H2.out.blk.frozen 1
      rcases OwnP.cases H2.out.own with ⟨e, rfl⟩ | ⟨g, cap', e, hle, hBg, hg⟩
      · cases e
        obtain rfl := cut_nil HC.out
        go_upto_region 10 with fail
        go_wp2_with (at_builtin; refine wpList_append_own_at _ rfl (.tmp 54) (.tmp 58) 35 rfl B 109 i0 (.agg #[.int .u32 0, .int .i64 0]) 2 16 Tryd.underlying35 hi0 hz0 hz1 hz2 rfl (by decide) (.slice none 0 0) 0 [] rfl (World.ownsRow_nil _ _ _ _) ⟨w2.heap.size, 0, none⟩ 1 1 [.int .u32 id, .int .i64 n] rfl rfl (two_newN _ _ _ _) (by simp [Value.oneCell']) (by unfold maxLen; omega) (by omega) (by simp; omega) ?_)
        intro v1 w3 hown1 hgrow1 hnn hat1
        have C3 : Chg (fun _ => False) w2 w3 := (Chg.of_gr ((Gr.refl w2).alloc _)).trans (Chg.grown0 hgrow1)
        have k3 := H2.out.blk.chg C3 (fun e => e)
        have hown1 : OwnP w3 B v1 [(id, n, 0)] := hown1
        obtain ⟨g1, cap1, rfl⟩ := ownsRow_succ (k := 0) hown1
        have f3 := k3.frozen 1
        have c3 := k3.at 1
        have hcap : 1 ≤ cap1 := by
          rcases OwnP.cases hown1 with ⟨e, _⟩ | ⟨g', c', e, h, _⟩
          · cases e
          · cases e; exact h
        have hcap2 : (1 : Int) ≤ (cap1 : Int) := by omega
        have hcap3 : ¬ cap1 < 1 := by omega
        simp only [List.getElem?_cons_zero, List.getElem?_cons_succ] at c3
        have hne : g1 ≠ r := fun e2 => by subst e2; have := own_ty hown1 rfl k3; cases this
        have R4 : Hid (∀ nb, RTab B (w3.setCell ⟨r, 1, none⟩ (.slice (some ⟨g1, 0, none⟩) 1 cap1)) r room (.slice (some ⟨g1, 0, none⟩) 1 cap1) (ins [] 0 (id, n, nb))) := fun nb => ⟨k3.set 1 _, own_keep hown1 (fun g e => Below.heap_setCell _ _ _ _ (by cases e; exact hne))⟩
        have C4 : Hid (Chg (tP r (.slice none 0 0)) w (w3.setCell ⟨r, 1, none⟩ (.slice (some ⟨g1, 0, none⟩) 1 cap1))) := (C2.out.trans (C3.wide (fun _ _ e => e.elim))).trans (Chg.set (p := tP r (.slice none 0 0)) w3 (a := ⟨r, 1, none⟩) (.inl rfl) _)
        have NR : Hid (NewRow w (.slice none 0 0) (.slice (some ⟨g1, 0, none⟩) 1 cap1)) := fun g e => by
          rcases hat1 with h | h
          · cases h
          · have h2 := h.symm.trans e
            cases h2
            exact .inr (by omega)
        clear C3 hown1 k3 hne hgrow1 c1 f1 H2 C2 hnn hat1
        go_wp2
        go_ret2
        exact ⟨0, HC.out, C4.out, .inr (.inr ⟨hth, by simp; omega, rfl, _, R4.out, NR.out⟩)⟩
      · simp only [Value.slice.injEq, true_and] at e
        obtain ⟨rfl, rfl⟩ := e
        have hicap : i ≤ cap := by omega
        have hicap2 : (i : Int) ≤ (cap : Int) := by omega
        have hil : (i : Int) ≤ (L.length : Int) := by omega
        have SR1 := hid0 (src_of H2.out.own 0 i)
        rw [List.drop_zero] at SR1
        have L1 : Hid ((cP (L.take i)).length = i * 2) := by simp only [Hid, cP_len, List.length_take]; omega
        go_wp2_with (at_builtin; refine wpList_append_own_at _ rfl (.tmp 46) (.tmp 52) 35 rfl B 109 i0 (.agg #[.int .u32 0, .int .i64 0]) 2 16 Tryd.underlying35 hi0 hz0 hz1 hz2 rfl (by decide) (.slice none 0 0) 0 [] rfl (World.ownsRow_nil _ _ _ _) ⟨g, 0 * 2, none⟩ i cap (cP (L.take i)) rfl L1.out SR1.out (cP_one _) (by unfold maxLen; omega) (by omega) (by omega) ?_)
        intro v1 w3 hown1 hgrow1 _ hat1
        have C3 : Chg (fun _ => False) w2 w3 := Chg.grown0 hgrow1
        have hs3 := C3.size
        have HO1 : Hid (w3.ownsRow B 109 2 v1 i (cP (L.take i))) := hown1
        have hlow1 : ∀ g, v1.ownBlock = some g → w2.heap.size ≤ g := fun g e => by
          rcases hat1 with h | h
          · rw [h] at e; cases e
          · rw [h] at e; cases e; exact Nat.le_refl _
        have C23 := hid0 C3
        clear hown1 hgrow1 c1 f1 hat1 C3
        go_wp2_with (at_builtin; refine wpList_append_own_at _ rfl (.tmp 54) (.tmp 58) 35 rfl B 109 i0 (.agg #[.int .u32 0, .int .i64 0]) 2 16 Tryd.underlying35 hi0 hz0 hz1 hz2 rfl (by decide) v1 i (cP (L.take i)) rfl (HO1.out.alloc _) ⟨w3.heap.size, 0, none⟩ 1 1 [.int .u32 id, .int .i64 n] rfl rfl (two_newN _ _ _ _) (by simp [Value.oneCell']) (by unfold maxLen; omega) (by omega) (by simp; omega) ?_)
        intro v2 w4 hown2 hgrow2 _ hat2
        have C34 : Chg (fun k => v1.ownBlock = some k) w3 w4 := ((Chg.of_gr ((Gr.refl w3).alloc _)).trans (Chg.grownR hgrow2))
        have C24 : Hid (Chg (fun _ => False) w2 w4) := C23.out.next C34 (fun j hj e => by have := hlow1 j e; omega)
        have HO2 : Hid (w4.ownsRow B 109 2 v2 (i + 1) (cP (L.take i) ++ [.int .u32 id, .int .i64 n])) := hown2
        have hlow2 : ∀ g, v2.ownBlock = some g → w2.heap.size ≤ g := fun g e => by
          rcases hat2 with h | h
          · exact hlow1 g (h ▸ e)
          · rw [h] at e; cases e; omega
        have hs4 := C24.out.size
        have H4 := hid0 (H2.out.chg C24.out (fun e => e) (fun g _ e => e))
        have c4 := H4.out.c1
        have SR2 := hid0 (src_of H4.out.own i (L.length - i))
        rw [List.take_of_length_le (by simp)] at SR2
        have L2 : Hid ((cP (L.drop i)).length = (L.length - i) * 2) := by simp [Hid, cP_len]
        obtain ⟨ad, had, SRA⟩ : ∃ ad : Addr, (if cap = i then some (⟨g, 0, none⟩ : Addr) else some ⟨g, i * 2, none⟩) = some ad ∧ Hid (∀ (j : Nat) (u : Value), (cP (L.drop i))[j]? = some u → w4.cell? (ad.add j) = some u) := by
          by_cases hcc : cap = i
          · refine ⟨⟨g, 0, none⟩, if_pos hcc, fun j u hj => ?_⟩
            rw [List.drop_eq_nil_of_le (by omega)] at hj
            simp [cP] at hj
          · exact ⟨_, if_neg hcc, SR2.out⟩
        have HAD := hid0 had
        clear had hown2 hgrow2 hat2 C34 C23 HO1
        go_wp2_with (at_builtin; refine wpList_append_own_at _ rfl (.tmp 61) (.tmp 67) 35 rfl B 109 i0 (.agg #[.int .u32 0, .int .i64 0]) 2 16 Tryd.underlying35 hi0 hz0 hz1 hz2 rfl (by decide) v2 (i + 1) (cP (L.take i) ++ [.int .u32 id, .int .i64 n]) rfl HO2.out ad (L.length - i) (cap - i) (cP (L.drop i)) (congrArg (fun a => Value.slice a (L.length - i) (cap - i)) HAD.out) L2.out SRA.out (cP_one _) (by unfold maxLen; omega) (by omega) (by omega) ?_)
        all_goals
          intro v3 w5 hown3 hgrow3 _ hat3
          have C45 : Chg (fun k => v2.ownBlock = some k) w4 w5 := Chg.grownR hgrow3
          have C25 : Chg (fun _ => False) w2 w5 := C24.out.next C45 (fun j hj e => by have := hlow2 j e; omega)
          have hown3 : ∀ nb, OwnP w5 B v3 (ins L i (id, n, nb)) := fun nb => by
            show w5.ownsRow B 109 2 v3 (ins L i (id, n, nb)).length (cP (ins L i (id, n, nb)))
            rw [cP_ins, ins_len _ _ _ hic, show L.length + 1 = i + 1 + (L.length - i) by omega, List.append_assoc]
            exact hown3
          have k5 := H2.out.blk.chg C25 (fun e => e)
          have f5 := k5.frozen 1
          have c5 := k5.at 1
          simp only [List.getElem?_cons_zero, List.getElem?_cons_succ] at c5
          have hne : ∀ g, v3.ownBlock = some g → g ≠ r := fun g e e2 => by subst e2; have := own_ty (hown3 0) e k5; cases this
          have R6 : Hid (∀ nb, RTab B (w5.setCell ⟨r, 1, none⟩ v3) r room v3 (ins L i (id, n, nb))) := fun nb => ⟨k5.set 1 v3, own_keep (hown3 nb) (fun g e => Below.heap_setCell _ _ _ _ (hne g e))⟩
          have C6 : Hid (Chg (tP r (.slice (some ⟨g, 0, none⟩) L.length cap)) w (w5.setCell ⟨r, 1, none⟩ v3)) := (C2.out.trans (C25.wide (fun _ _ e => e.elim))).trans (Chg.set (p := tP r (.slice (some ⟨g, 0, none⟩) L.length cap)) w5 (a := ⟨r, 1, none⟩) (.inl rfl) v3)
          obtain ⟨ao2, n2, c2', rfl⟩ : ∃ a n c, v3 = .slice a n c := by obtain ⟨a, c, e⟩ := own_slice (hown3 0); exact ⟨a, _, c, e⟩
          have NR : Hid (NewRow w (.slice (some ⟨g, 0, none⟩) L.length cap) (.slice ao2 n2 c2')) := fun g e => by
            rcases hat3 with h | h
            · have := hlow2 g (h ▸ e); exact .inr (by omega)
            · rw [h] at e; cases e; exact .inr (by omega)
          clear hat3 C45 C25 hown3 k5 hne hgrow3 c4 HO2 SR2 H2 H4 C2 C24
          go_wp2
          go_ret2
          exact ⟨i, HC.out, C6.out, .inr (.inr ⟨hth, by omega, rfl, _, R6.out, NR.out⟩)⟩
end
end Go.Proofs.YtjnjpjpgokdciaaDoor
