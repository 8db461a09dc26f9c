/- The program's without: a part without a number. -/
import Derived.Test.YtpikhdfndnpidaaTx
set_option linter.unusedSimpArgs false
set_option linter.unusedVariables false
namespace Go.Proofs.Ytpikhdfndnpidaa
open Go.RowKit Go.Sort

theorem PT.mem_side {k j : Int} {r : Q4} {l h : PT} (s : PT.Srt (PT.nd j r l h).toL) (m : ∃ q, (k, q) ∈ (PT.nd j r l h).toL) : (k < j → ∃ q, (k, q) ∈ l.toL) ∧ (j < k → ∃ q, (k, q) ∈ h.toL) := by
  obtain ⟨q, m⟩ := m
  obtain ⟨s1, s2, s3, s4⟩ := PT.srt_parts s
  simp only [PT.toL, List.mem_append, List.mem_cons] at m
  rcases m with m | m | m
  · have := s3 _ m
    exact ⟨fun _ => ⟨q, m⟩, fun h => by simp only at this; omega⟩
  · have : k = j := congrArg Prod.fst m
    exact ⟨fun h => by omega, fun h => by omega⟩
  · have := s4 _ m
    exact ⟨fun h => by simp only at this; omega, fun _ => ⟨q, m⟩⟩
set_option maxRecDepth 20000 in
set_option maxHeartbeats 4000000 in
theorem without_any (t : At) : PT.Ok t.er → t.er.toL.length < 200000 → PT.Srt t.er.toL → ∀ k w, TrAt w t → (∃ q, (k, q) ∈ t.er.toL) →
    Calls Try.prog 36 #[t.ptr, .int .u32 k] w fun e w' => ∃ t' : At, e = .returned t'.ptr ∧ Hid (TrAt w' t') ∧ Hid (t'.er = PT.del t.er k) ∧ Gr w w' := by
  induction t using At.ind with
  | nil =>
    intro _ _ _ k w _ m
    obtain ⟨q, m⟩ := m
    cases m
  | nd b j r l h ih1 ih2 =>
    intro ok hs st k W hT hm
    obtain ⟨kr, kl, kh⟩ := PT.ok_nd ok
    obtain ⟨s1, s2, s3, s4⟩ := PT.srt_parts st
    obtain ⟨m1, m2⟩ := PT.mem_side st hm
    simp only [At.er, PT.toL, List.length_append, List.length_cons] at hs
    have I1 := hid0 (ih1 kl (by omega) s1)
    have I2 := hid0 (ih2 kh (by omega) s2)
    have LV1 : Hid (∀ k l', l'.er = PT.del l.er k → ∀ w, TrAt w l' → TrAt w h → Calls Try.prog 47 #[ent j r, l'.ptr, h.ptr] w fun e w' => ∃ t : At, e = .returned t.ptr ∧ Hid (TrAt w' t) ∧ Hid (t.er = PT.level j r l'.er h.er) ∧ Gr w w') := fun k l' hl' w => level_any j r l' h kr (hl' ▸ PT.ok_del kl k) kh (by have := PT.len_del l.er k; rw [hl']; omega) w
    have LV2 : Hid (∀ i q k h', rgQ q = true → h'.er = PT.del h.er k → ∀ w, TrAt w l → TrAt w h' → Calls Try.prog 47 #[ent i q, l.ptr, h'.ptr] w fun e w' => ∃ t : At, e = .returned t.ptr ∧ Hid (TrAt w' t) ∧ Hid (t.er = PT.level i q l.er h'.er) ∧ Gr w w') := fun i q k h' kq hh' w => level_any i q l h' kq kl (hh' ▸ PT.ok_del kh k) (by have := PT.len_del h.er k; rw [hh']; omega) w
    have EE : Hid (PT.del (At.nd b j r l h).er k = if k < j then PT.level j r (l.er.del k) h.er else if j < k then PT.level j r l.er (h.er.del k) else if h.er.isNil then l.er else PT.level h.er.first.1 h.er.first.2 l.er (h.er.del h.er.first.1)) := rfl
    have KR := hid0 kr
    have KH := hid0 kh
    have M1 := hid0 m1
    have M2 := hid0 m2
    clear ih1 ih2 ok kr kl kh hs st s1 s2 s3 s4 m1 m2 hm
    have kn := hT.1
    have XL := hid0 hT.2.1
    have XH := hid0 hT.2.2
    have y0 := kn.at 0
    have y5 := kn.at 5
    have y6 := kn.at 6
    simp only [List.getElem?_cons_zero, List.getElem?_cons_succ] at y0 y5 y6
    have c0 := cell_if (kn.at 0)
    have c1 := cell_if (kn.at 1)
    have c2 := cell_if (kn.at 2)
    have c3 := cell_if (kn.at 3)
    have c4 := cell_if (kn.at 4)
    have c5 := cell_if (kn.at 5)
    have c6 := cell_if (kn.at 6)
    clear kn hT
    show Calls Try.prog 36 #[.pointer (some ⟨b, 0, none⟩), .int .u32 k] W _
    by_cases c : k < j
    · have E1 : Hid (PT.del (At.nd b j r l h).er k = PT.level j r (l.er.del k) h.er) := by unfold Hid; rw [EE.out, if_pos c]
      have MM := hid0 (M1.out c)
      clear EE I2 LV2 M1 M2
      generalize l.ptr = lp at *
      generalize h.ptr = hp at *
      go_enter Try.func36, Try.ntmps36
      go_wp2_with fail
      clear y0 y5 y6
      go_region_held3 (Gr W)
        (first
          | exact (Gr.refl _).drew
          | exact Gr.trans (by assumption) (by assumption))
        (first
          | (go_at_call 36; refine (I1.out _ _ (XL.out.gr (by assumption)) MM.out).mono ?_; rintro e w5 ⟨l', rfl, t1, e1', g5⟩)
          | (go_at_call 47; refine (LV1.out k l' e1'.out _ t1.out (XH.out.gr (by assumption))).mono ?_; rintro e w7 ⟨t', rfl, t3, e3', g7⟩))
      rename_i hH
      go_wp2
      go_ret
      exact ⟨t', rfl, t3, by unfold Hid; rw [E1.out, e3'.out, e1'.out], hH⟩
    · by_cases c' : j < k
      · have E1 : Hid (PT.del (At.nd b j r l h).er k = PT.level j r l.er (h.er.del k)) := by unfold Hid; rw [EE.out, if_neg c, if_pos c']
        have MM := hid0 (M2.out c')
        clear EE I1 LV1 M1 M2
        generalize l.ptr = lp at *
        generalize h.ptr = hp at *
        go_enter Try.func36, Try.ntmps36
        go_wp2_with fail
        clear y0 y5 y6
        go_region_held3 (Gr W)
          (first
            | exact (Gr.refl _).drew
            | exact Gr.trans (by assumption) (by assumption))
          (first
            | (go_at_call 36; refine (I2.out _ _ (XH.out.gr (by assumption)) MM.out).mono ?_; rintro e w5 ⟨h', rfl, t1, e1', g5⟩)
            | (go_at_call 47; refine (LV2.out j r k h' KR.out e1'.out _ (XL.out.gr (by assumption)) t1.out).mono ?_; rintro e w7 ⟨t', rfl, t3, e3', g7⟩))
        rename_i hH
        go_wp2
        go_ret
        exact ⟨t', rfl, t3, by unfold Hid; rw [E1.out, e3'.out, e1'.out], hH⟩
      · have e : k = j := by omega
        subst e
        cases h using At.cas with
        | nil =>
          have E1 : Hid (PT.del (At.nd b k r l .nil).er k = l.er) := by unfold Hid; rw [EE.out, if_neg c, if_neg c']; rfl
          clear EE I1 I2 LV1 LV2 M1 M2 c0 c1 c2 c3 c4 c5 c6
          dsimp only [At.ptr] at y6
          obtain ⟨lp, hlp⟩ : ∃ lp, l.ptr = lp := ⟨_, rfl⟩
          rw [hlp] at y5
          have HLP := hid0 hlp
          clear hlp
          go_enter Try.func36, Try.ntmps36
          go_wp2
          go_ret
          exact ⟨l, by rw [HLP.out]; rfl, XL, E1.out.symm, Gr.refl _⟩
        | nd b2 j2 r2 l2 h2 =>
          have E1 : Hid (PT.del (At.nd b k r l (.nd b2 j2 r2 l2 h2)).er k = PT.level (At.nd b2 j2 r2 l2 h2).er.first.1 (At.nd b2 j2 r2 l2 h2).er.first.2 l.er ((At.nd b2 j2 r2 l2 h2).er.del (At.nd b2 j2 r2 l2 h2).er.first.1)) := by unfold Hid; rw [EE.out, if_neg c, if_neg c']; rfl
          have FF := hid0 (first_any (.nd b2 j2 r2 l2 h2) W XH.out rfl)
          obtain ⟨b3, l3, h3, e3⟩ := At.er_first (.nd b2 j2 r2 l2 h2) rfl
          have XF := XH.out.first
          rw [e3] at FF XF
          have MM : Hid (∃ q, ((At.nd b2 j2 r2 l2 h2).er.first.1, q) ∈ (At.nd b2 j2 r2 l2 h2).er.toL) := ⟨_, PT.first_mem _ rfl⟩
          have KQ : Hid (rgQ (At.nd b2 j2 r2 l2 h2).er.first.2 = true) := KH.out.1 _ (PT.first_mem _ rfl)
          clear EE I1 LV1 M1 M2 e3 KH
          generalize (At.nd b2 j2 r2 l2 h2).er.first = fi at *
          have d0 := cell_if (XF.1.at 0)
          have d1 := cell_if (XF.1.at 1)
          have d2 := cell_if (XF.1.at 2)
          have d3 := cell_if (XF.1.at 3)
          have d4 := cell_if (XF.1.at 4)
          clear XF
          generalize l.ptr = lp at *
          have I3 : Hid (∀ k w, TrAt w (.nd b2 j2 r2 l2 h2) → (∃ q, (k, q) ∈ (At.nd b2 j2 r2 l2 h2).er.toL) → Calls Try.prog 36 #[.pointer (some ⟨b2, 0, none⟩), .int .u32 k] w fun e w' => ∃ t' : At, e = .returned t'.ptr ∧ Hid (TrAt w' t') ∧ Hid (t'.er = PT.del (At.nd b2 j2 r2 l2 h2).er k) ∧ Gr w w') := I2.out
          clear I2
          dsimp only [At.ptr] at y6 FF c6
          go_enter Try.func36, Try.ntmps36
          go_wp2_with fail
          refine FF.out.mono ?_
          rintro e v ⟨rfl, hv⟩
          cases hv
          clear FF
          go_wp2_with fail
          clear y0 y5 y6
          go_region_held3 (Gr W)
            (first
              | exact (Gr.refl _).drew
              | exact Gr.trans (by assumption) (by assumption))
            (first
              | (go_at_call 36; refine (I3.out _ _ (XH.out.gr (by assumption)) MM.out).mono ?_; rintro e w5 ⟨h', rfl, t1, e1', g5⟩)
              | (go_at_call 47; refine (LV2.out _ _ _ h' KQ.out e1'.out _ (XL.out.gr (by assumption)) t1.out).mono ?_; rintro e w7 ⟨t', rfl, t3, e3', g7⟩))
          rename_i hH
          go_wp2
          go_ret
          exact ⟨t', rfl, t3, by unfold Hid; rw [E1.out, e3'.out, e1'.out], hH⟩
end Go.Proofs.Ytpikhdfndnpidaa
