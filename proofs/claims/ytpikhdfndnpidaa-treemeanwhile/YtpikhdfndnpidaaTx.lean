/- The program's with: a part with one more. -/
import Derived.Test.YtpikhdfndnpidaaTw
set_option linter.unusedSimpArgs false
set_option linter.unusedVariables false
namespace Go.Proofs.Ytpikhdfndnpidaa
open Go.RowKit Go.Sort

namespace PT
theorem mem_ins {i : Int} {q : Q4} {x : E} (t : PT) : x ∈ (ins i q t).toL ↔ x = (i, q) ∨ x ∈ t.toL := by
  induction t using PT.ind with
  | nil => simp [ins, toL]
  | nd s0 j r l h ih1 ih2 =>
    simp only [ins]
    split
    · simp only [toL_level, toL, List.mem_append, List.mem_cons, ih1]
      constructor
      · rintro ((h | h) | h | h) <;> simp [h]
      · rintro (h | h | h | h) <;> simp [h]
    · simp only [toL_level, toL, List.mem_append, List.mem_cons, ih2]
      constructor
      · rintro (h | h | h | h) <;> simp [h]
      · rintro (h | h | h | h) <;> simp [h]
theorem len_ins (i : Int) (q : Q4) (t : PT) : (ins i q t).toL.length = t.toL.length + 1 := by
  induction t using PT.ind with
  | nil => simp [ins, toL]
  | nd s0 j r l h ih1 ih2 =>
    simp only [ins]
    split <;> simp only [toL_level, toL, List.length_append, List.length_cons, ih1, ih2] <;> omega
theorem first_mem (t : PT) (h : t.isNil = false) : t.first ∈ t.toL := by
  obtain ⟨r, hr⟩ := first_toL t h
  rw [hr]; simp
theorem mem_del {x : E} (t : PT) : ∀ k, x ∈ (t.del k).toL → x ∈ t.toL := by
  induction t using PT.ind with
  | nil => intro k h; exact h
  | nd s0 j r l h ih1 ih2 =>
    intro k
    simp only [del]
    split
    · simp only [toL_level, toL, List.mem_append, List.mem_cons]
      rintro (h | h | h)
      · exact .inl (ih1 k h)
      · exact .inr (.inl h)
      · exact .inr (.inr h)
    · split
      · simp only [toL_level, toL, List.mem_append, List.mem_cons]
        rintro (h | h | h)
        · exact .inl h
        · exact .inr (.inl h)
        · exact .inr (.inr (ih2 k h))
      · split
        · intro h; simp [toL, h]
        · rename_i c
          have hm := first_mem h (by simpa using c)
          simp only [toL_level, toL, List.mem_append, List.mem_cons]
          rintro (h | h | h)
          · exact .inl h
          · refine .inr (.inr ?_)
            rw [h]
            exact hm
          · exact .inr (.inr (ih2 _ h))
theorem len_del (t : PT) : ∀ k, (t.del k).toL.length ≤ t.toL.length := by
  induction t using PT.ind with
  | nil => intro k; exact Nat.le_refl _
  | nd s0 j r l h ih1 ih2 =>
    intro k
    have := ih1 k
    have := ih2 k
    have := ih2 h.first.1
    simp only [del]
    split
    · simp only [toL_level, toL, List.length_append, List.length_cons]; omega
    · split
      · simp only [toL_level, toL, List.length_append, List.length_cons]; omega
      · split
        · simp only [toL, List.length_append, List.length_cons]; omega
        · simp only [toL_level, toL, List.length_append, List.length_cons]; omega
theorem ok_ins {i : Int} {q : Q4} {t : PT} (k : Ok t) (hq : rgQ q = true) (h : t.toL.length < 250000) : Ok (ins i q t) :=
  ⟨fun x hx => ((mem_ins t).1 hx).elim (fun e => by rw [e]; exact hq) (k.1 x), by rw [len_ins]; omega⟩
theorem ok_nil : Ok nil := ⟨fun x hx => (by cases hx), (by simp [toL])⟩
theorem ok_del {t : PT} (k : Ok t) (j : Int) : Ok (t.del j) := ⟨fun x hx => k.1 x (mem_del t j hx), Nat.le_trans (len_del t j) k.2⟩
end PT
set_option maxRecDepth 20000 in
set_option maxHeartbeats 4000000 in
theorem with_any (i : Int) (q : Q4) (hq : rgQ q = true) (t : At) : PT.Ok t.er → t.er.toL.length < 200000 → ∀ w, TrAt w t →
    Calls Try.prog 33 #[t.ptr, ent i q] w fun e w' => ∃ t' : At, e = .returned t'.ptr ∧ Hid (TrAt w' t') ∧ Hid (t'.er = PT.ins i q t.er) ∧ Gr w w' := by
  induction t using At.ind with
  | nil =>
    intro _ _ w _
    have O : Hid (∀ w, Calls Try.prog 46 #[ent i q, .pointer none, .pointer none] w fun e w' => ∃ b, e = .returned (.pointer (some ⟨b, 0, none⟩)) ∧ Hid (TrAt w' (.nd b i q .nil .nil)) ∧ Gr w w') := fun w => over_ok i q .nil .nil hq PT.ok_nil PT.ok_nil w trivial trivial
    obtain ⟨W, hW⟩ : ∃ W, W = w.alloc (.cells #[.int .u32 i, .int .i32 q.1, .int .i32 q.2.1, .int .i32 q.2.2.1, .int .i32 q.2.2.2] 76) := ⟨_, rfl⟩
    have g0 : Gr w W := hW ▸ (Gr.refl w).alloc _
    have ke : Bk W w.heap.size 76 [.int .u32 i, .int .i32 q.1, .int .i32 q.2.1, .int .i32 q.2.2.1, .int .i32 q.2.2.2] := hW ▸ Bk.new w 76 _
    have e0 := ke.at 0
    have e1 := ke.at 1
    have e2 := ke.at 2
    have e3 := ke.at 3
    have e4 := ke.at 4
    simp only [List.getElem?_cons_zero, List.getElem?_cons_succ] at e0 e1 e2 e3 e4
    have G0 := hid0 g0
    clear ke g0 hq
    show Calls Try.prog 33 #[.pointer none, ent i q] w _
    go_enter Try.func33, Try.ntmps33
    go_upto_region 1 with fail
    rw [← hW]
    clear hW
    generalize w.heap.size = BE at *
    go_wp2_with fail
    refine (O.out _).mono ?_
    rintro e v1 ⟨b, rfl, h1, h3⟩
    clear O e0 e1 e2 e3 e4
    go_wp2
    go_ret
    exact ⟨.nd b i q .nil .nil, rfl, h1, rfl, G0.out.trans h3⟩
  | nd b j r l h ih1 ih2 =>
    intro k hs w hT
    obtain ⟨kr, kl, kh⟩ := PT.ok_nd k
    simp only [At.er, PT.toL, List.length_append, List.length_cons] at hs
    have I1 := hid0 (ih1 kl (by omega))
    have I2 := hid0 (ih2 kh (by omega))
    have LV1 : Hid (∀ l', l'.er = PT.ins i q l.er → ∀ w, TrAt w l' → TrAt w h → Calls Try.prog 47 #[ent j r, l'.ptr, h.ptr] w fun e w' => ∃ t : At, e = .returned t.ptr ∧ Hid (TrAt w' t) ∧ Hid (t.er = PT.level j r l'.er h.er) ∧ Gr w w') := fun l' hl' w => level_any j r l' h kr (hl' ▸ PT.ok_ins kl hq (by omega)) kh (by rw [hl', PT.len_ins]; omega) w
    have LV2 : Hid (∀ h', h'.er = PT.ins i q h.er → ∀ w, TrAt w l → TrAt w h' → Calls Try.prog 47 #[ent j r, l.ptr, h'.ptr] w fun e w' => ∃ t : At, e = .returned t.ptr ∧ Hid (TrAt w' t) ∧ Hid (t.er = PT.level j r l.er h'.er) ∧ Gr w w') := fun h' hh' w => level_any j r l h' kr kl (hh' ▸ PT.ok_ins kh hq (by omega)) (by rw [hh', PT.len_ins]; omega) w
    have EE : Hid (PT.ins i q (At.nd b j r l h).er = if i < j then PT.level j r (PT.ins i q l.er) h.er else PT.level j r l.er (PT.ins i q h.er)) := rfl
    clear ih1 ih2 k kr kl kh hs hq
    obtain ⟨W, hW⟩ : ∃ W, W = w.alloc (.cells #[.int .u32 i, .int .i32 q.1, .int .i32 q.2.1, .int .i32 q.2.2.1, .int .i32 q.2.2.2] 76) := ⟨_, rfl⟩
    have g0 : Gr w W := hW ▸ (Gr.refl w).alloc _
    have ke : Bk W w.heap.size 76 [.int .u32 i, .int .i32 q.1, .int .i32 q.2.1, .int .i32 q.2.2.1, .int .i32 q.2.2.2] := hW ▸ Bk.new w 76 _
    replace hT := hT.gr g0
    have kn := hT.1
    have XL := hid0 hT.2.1
    have XH := hid0 hT.2.2
    have G0 := hid0 g0
    have c0 := cell_gr (kn.at 0)
    have c1 := cell_gr (kn.at 1)
    have c2 := cell_gr (kn.at 2)
    have c3 := cell_gr (kn.at 3)
    have c4 := cell_gr (kn.at 4)
    have c5 := cell_gr (kn.at 5)
    have c6 := cell_gr (kn.at 6)
    have e0 := cell_gr (ke.at 0)
    have e1 := cell_gr (ke.at 1)
    have e2 := cell_gr (ke.at 2)
    have e3 := cell_gr (ke.at 3)
    have e4 := cell_gr (ke.at 4)
    clear kn ke hT g0
    generalize l.ptr = lp at *
    generalize h.ptr = hp at *
    have fin : ∀ V, Gr W V → (∀ {a x}, (∀ n os, (grow (W.drewN n) os).cell? a = some x) → ∀ w', Gr V w' → w'.cell? a = some x) := fun V gV a x hc => cell_if (by obtain ⟨n, os, rfl⟩ := gV; exact hc n os)
    have FIN := hid0 fin
    clear fin
    show Calls Try.prog 33 #[.pointer (some ⟨b, 0, none⟩), ent i q] w _
    by_cases c : i < j
    · have E1 : Hid (PT.ins i q (At.nd b j r l h).er = PT.level j r (PT.ins i q l.er) h.er) := by unfold Hid; rw [EE.out, if_pos c]
      clear EE I2 LV2
      go_enter Try.func33, Try.ntmps33
      go_upto_region 1 with fail
      rw [← hW]
      clear hW
      generalize w.heap.size = BE at *
      go_wp2_with fail
      refine wp_region_quiet_grown (by kernel_rfl) (by kernel_rfl) ?_
      repeat (go_big_quiet_step (fail))
      refine wpQuiet_nil ?_
      intro V hw'
      have gV : Gr W V := by obtain ⟨⟨nq, osq⟩, rfl⟩ := hw'; exact ⟨nq, osq, rfl⟩
      clear hw'
      replace c0 := FIN.out V gV c0
      replace c1 := FIN.out V gV c1
      replace c2 := FIN.out V gV c2
      replace c3 := FIN.out V gV c3
      replace c4 := FIN.out V gV c4
      replace c5 := FIN.out V gV c5
      replace c6 := FIN.out V gV c6
      replace e0 := FIN.out V gV e0
      replace e1 := FIN.out V gV e1
      replace e2 := FIN.out V gV e2
      replace e3 := FIN.out V gV e3
      replace e4 := FIN.out V gV e4
      replace XL := hid0 (XL.out.gr gV)
      replace XH := hid0 (XH.out.gr gV)
      replace G0 := hid0 (G0.out.trans gV)
      clear gV FIN
      go_wp2_with fail
      go_region_held3 (Gr V)
        (first
          | exact (Gr.refl _).drew
          | exact Gr.trans (by assumption) (by assumption))
        (first
          | (go_at_call 33; refine (I1.out _ (XL.out.gr (by assumption))).mono ?_; rintro e w5 ⟨l', rfl, t1, e1', g5⟩)
          | (go_at_call 47; refine (LV1.out l' e1'.out _ t1.out (XH.out.gr (by assumption))).mono ?_; rintro e w7 ⟨t', rfl, t3, e3', g7⟩))
      rename_i hH
      go_wp2
      go_ret
      exact ⟨t', rfl, t3, by unfold Hid; rw [E1.out, e3'.out, e1'.out], G0.out.trans hH⟩
    · have E1 : Hid (PT.ins i q (At.nd b j r l h).er = PT.level j r l.er (PT.ins i q h.er)) := by unfold Hid; rw [EE.out, if_neg c]
      clear EE I1 LV1
      go_enter Try.func33, Try.ntmps33
      go_upto_region 1 with fail
      rw [← hW]
      clear hW
      generalize w.heap.size = BE at *
      go_wp2_with fail
      refine wp_region_quiet_grown (by kernel_rfl) (by kernel_rfl) ?_
      repeat (go_big_quiet_step (fail))
      refine wpQuiet_nil ?_
      intro V hw'
      have gV : Gr W V := by obtain ⟨⟨nq, osq⟩, rfl⟩ := hw'; exact ⟨nq, osq, rfl⟩
      clear hw'
      replace c0 := FIN.out V gV c0
      replace c1 := FIN.out V gV c1
      replace c2 := FIN.out V gV c2
      replace c3 := FIN.out V gV c3
      replace c4 := FIN.out V gV c4
      replace c5 := FIN.out V gV c5
      replace c6 := FIN.out V gV c6
      replace e0 := FIN.out V gV e0
      replace e1 := FIN.out V gV e1
      replace e2 := FIN.out V gV e2
      replace e3 := FIN.out V gV e3
      replace e4 := FIN.out V gV e4
      replace XL := hid0 (XL.out.gr gV)
      replace XH := hid0 (XH.out.gr gV)
      replace G0 := hid0 (G0.out.trans gV)
      clear gV FIN
      go_wp2_with fail
      go_region_held3 (Gr V)
        (first
          | exact (Gr.refl _).drew
          | exact Gr.trans (by assumption) (by assumption))
        (first
          | (go_at_call 33; refine (I2.out _ (XH.out.gr (by assumption))).mono ?_; rintro e w5 ⟨h', rfl, t1, e1', g5⟩)
          | (go_at_call 47; refine (LV2.out h' e1'.out _ (XL.out.gr (by assumption)) t1.out).mono ?_; rintro e w7 ⟨t', rfl, t3, e3', g7⟩))
      rename_i hH
      go_wp2
      go_ret
      exact ⟨t', rfl, t3, by unfold Hid; rw [E1.out, e3'.out, e1'.out], G0.out.trans hH⟩
end Go.Proofs.Ytpikhdfndnpidaa
