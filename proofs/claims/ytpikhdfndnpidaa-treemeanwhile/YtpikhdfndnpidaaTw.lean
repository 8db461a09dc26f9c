/- The program's level: a node over two parts whose depths may be two apart. -/
import Derived.Test.YtpikhdfndnpidaaTv
set_option linter.unusedSimpArgs false
set_option linter.unusedVariables false
namespace Go.Proofs.Ytpikhdfndnpidaa
open Go.RowKit Go.Sort

theorem low_any (i : Int) (q : Q4) (l h : At) (w : World) (hn : l.isNil = false) (hl : TrAt w l) (hh : TrAt w h) (hq : rgQ q = true) (kl : PT.Ok l.er) (kh : PT.Ok h.er) (hs : l.er.toL.length + h.er.toL.length < 300000) :
    Calls Try.prog 54 #[ent i q, l.ptr, h.ptr] w fun e w' => ∃ t : At, e = .returned t.ptr ∧ TrAt w' t ∧ t.er = PT.fromLow i q l.er h.er ∧ Gr w w' := by
  cases l using At.cas with
  | nil => cases hn
  | nd b xi xq o m =>
    by_cases c : o.er.dep < m.er.dep
    · cases m using At.cas with
      | nil => simp [At.er, PT.dep] at c
      | nd bm mi mq ml mh => exact fromLow_deep i q b xi xq o h bm mi mq ml mh w c hl hh hq kl kh hs
    · exact fromLow_flat i q b xi xq o h m w c hl hh hq kl kh hs
theorem high_any (i : Int) (q : Q4) (l h : At) (w : World) (hn : h.isNil = false) (hl : TrAt w l) (hh : TrAt w h) (hq : rgQ q = true) (kl : PT.Ok l.er) (kh : PT.Ok h.er) (hs : l.er.toL.length + h.er.toL.length < 300000) :
    Calls Try.prog 55 #[ent i q, l.ptr, h.ptr] w fun e w' => ∃ t : At, e = .returned t.ptr ∧ TrAt w' t ∧ t.er = PT.fromHigh i q l.er h.er ∧ Gr w w' := by
  cases h using At.cas with
  | nil => cases hn
  | nd b xi xq m o =>
    by_cases c : o.er.dep < m.er.dep
    · cases m using At.cas with
      | nil => simp [At.er, PT.dep] at c
      | nd bm mi mq ml mh => exact fromHigh_deep i q b xi xq o l bm mi mq ml mh w c hh hl hq kh kl (by omega)
    · exact fromHigh_flat i q b xi xq o l m w c hh hl hq kh kl (by omega)
set_option maxRecDepth 20000 in
set_option maxHeartbeats 4000000 in
theorem level_any (i : Int) (q : Q4) (l h : At) (hq : rgQ q = true) (kl : PT.Ok l.er) (kh : PT.Ok h.er) (hs : l.er.toL.length + h.er.toL.length < 300000) (w : World) (hl : TrAt w l) (hh : TrAt w h) :
    Calls Try.prog 47 #[ent i q, l.ptr, h.ptr] w fun e w' => ∃ t : At, e = .returned t.ptr ∧ Hid (TrAt w' t) ∧ Hid (t.er = PT.level i q l.er h.er) ∧ Gr w w' := by
  have b1 := kl.dep
  have b2 := kh.dep
  have D1 := hid0 (deep_any l)
  have D2 := hid0 (deep_any h)
  have L : Hid (h.er.dep + 1 < l.er.dep → ∀ w, TrAt w l → TrAt w h → Calls Try.prog 54 #[ent i q, l.ptr, h.ptr] w fun e w' => ∃ t : At, e = .returned t.ptr ∧ TrAt w' t ∧ t.er = PT.fromLow i q l.er h.er ∧ Gr w w') := fun c w hl hh => low_any i q l h w (by cases l using At.cas with
    | nil => simp [At.er, PT.dep] at c
    | nd => rfl) hl hh hq kl kh hs
  have H : Hid (l.er.dep + 1 < h.er.dep → ∀ w, TrAt w l → TrAt w h → Calls Try.prog 55 #[ent i q, l.ptr, h.ptr] w fun e w' => ∃ t : At, e = .returned t.ptr ∧ TrAt w' t ∧ t.er = PT.fromHigh i q l.er h.er ∧ Gr w w') := fun c w hl hh => high_any i q l h w (by cases h using At.cas with
    | nil => simp [At.er, PT.dep] at c
    | nd => rfl) hl hh hq kl kh hs
  have O := hid0 (over_ok i q l h hq kl kh)
  have E : Hid (PT.level i q l.er h.er = if h.er.dep + 1 < l.er.dep then PT.fromLow i q l.er h.er else if l.er.dep + 1 < h.er.dep then PT.fromHigh i q l.er h.er else PT.nd i q l.er h.er) := rfl
  obtain ⟨W, hW⟩ : ∃ W, W = w.alloc (.cells #[.int .u32 i, .int .i32 q.1, .int .i32 q.2.1, .int .i32 q.2.2.1, .int .i32 q.2.2.2] 76) := ⟨_, rfl⟩
  have g0 : Gr w W := hW ▸ (Gr.refl w).alloc _
  have ke : Bk W w.heap.size 76 [.int .u32 i, .int .i32 q.1, .int .i32 q.2.1, .int .i32 q.2.2.1, .int .i32 q.2.2.2] := hW ▸ Bk.new w 76 _
  have XL := hid0 (hl.gr g0)
  have XH := hid0 (hh.gr g0)
  have e0 := ke.at 0
  have e1 := ke.at 1
  have e2 := ke.at 2
  have e3 := ke.at 3
  have e4 := ke.at 4
  simp only [List.getElem?_cons_zero, List.getElem?_cons_succ] at e0 e1 e2 e3 e4
  have G0 := hid0 g0
  clear hl hh ke g0 kl kh hs hq
  have w1 : wrap64 (((h.er.dep : Nat) : Int) + 1) = ((h.er.dep : Nat) : Int) + 1 := by unfold wrap64; omega
  have w2 : wrap64 (((l.er.dep : Nat) : Int) + 1) = ((l.er.dep : Nat) : Int) + 1 := by unfold wrap64; omega
  by_cases c1 : h.er.dep + 1 < l.er.dep
  · have d1 : ((h.er.dep : Nat) : Int) + 1 < ((l.er.dep : Nat) : Int) := by omega
    have LL := hid0 (L.out c1)
    have EE : Hid (PT.level i q l.er h.er = PT.fromLow i q l.er h.er) := by unfold Hid; rw [E.out, if_pos c1]
    clear c1 E b1 b2 L H O
    generalize ((h.er.dep : Nat) : Int) = dh at *
    generalize ((l.er.dep : Nat) : Int) = dl at *
    generalize l.ptr = lp at *
    generalize h.ptr = hp at *
    go_enter Try.func47, Try.ntmps47
    go_upto_region 1 with fail
    rw [← hW]
    clear hW
    generalize w.heap.size = BE at *
    go_wp2_with fail
    refine (D1.out _ XL.out).mono ?_
    rintro e v1 ⟨rfl, hv⟩
    cases hv
    clear D1
    go_wp2_with fail
    refine (D2.out _ XH.out).mono ?_
    rintro e v1 ⟨rfl, hv⟩
    cases hv
    clear D2
    go_wp2_with fail
    refine (LL.out _ XL.out XH.out).mono ?_
    rintro e v1 ⟨t, rfl, h1, h2, h3⟩
    have h1 := hid0 h1
    have h2 := hid0 h2
    clear LL e0 e1 e2 e3 e4
    go_wp2
    go_ret
    exact ⟨t, rfl, h1.out, by unfold Hid; rw [EE.out]; exact h2.out, G0.out.trans h3⟩
  · have d1 : ¬ ((h.er.dep : Nat) : Int) + 1 < ((l.er.dep : Nat) : Int) := by omega
    by_cases c2 : l.er.dep + 1 < h.er.dep
    · have d2 : ((l.er.dep : Nat) : Int) + 1 < ((h.er.dep : Nat) : Int) := by omega
      have LL := hid0 (H.out c2)
      have EE : Hid (PT.level i q l.er h.er = PT.fromHigh i q l.er h.er) := by unfold Hid; rw [E.out, if_neg c1, if_pos c2]
      clear c1 c2 E b1 b2 L H O
      generalize ((h.er.dep : Nat) : Int) = dh at *
      generalize ((l.er.dep : Nat) : Int) = dl at *
      generalize l.ptr = lp at *
      generalize h.ptr = hp at *
      go_enter Try.func47, Try.ntmps47
      go_upto_region 1 with fail
      rw [← hW]
      clear hW
      generalize w.heap.size = BE at *
      go_wp2_with fail
      refine (D1.out _ XL.out).mono ?_
      rintro e v1 ⟨rfl, hv⟩
      cases hv
      go_wp2_with fail
      refine (D2.out _ XH.out).mono ?_
      rintro e v1 ⟨rfl, hv⟩
      cases hv
      go_wp2_with fail
      refine (D2.out _ XH.out).mono ?_
      rintro e v1 ⟨rfl, hv⟩
      cases hv
      go_wp2_with fail
      refine (D1.out _ XL.out).mono ?_
      rintro e v1 ⟨rfl, hv⟩
      cases hv
      go_wp2_with fail
      refine (LL.out _ XL.out XH.out).mono ?_
      rintro e v1 ⟨t, rfl, h1, h2, h3⟩
      have h1 := hid0 h1
      have h2 := hid0 h2
      clear LL e0 e1 e2 e3 e4 D1 D2
      go_wp2
      go_ret
      exact ⟨t, rfl, h1.out, by unfold Hid; rw [EE.out]; exact h2.out, G0.out.trans h3⟩
    · have d2 : ¬ ((l.er.dep : Nat) : Int) + 1 < ((h.er.dep : Nat) : Int) := by omega
      have EE : Hid (PT.level i q l.er h.er = PT.nd i q l.er h.er) := by unfold Hid; rw [E.out, if_neg c1, if_neg c2]
      clear c1 c2 E b1 b2 L H
      generalize ((h.er.dep : Nat) : Int) = dh at *
      generalize ((l.er.dep : Nat) : Int) = dl at *
      generalize l.ptr = lp at *
      generalize h.ptr = hp at *
      go_enter Try.func47, Try.ntmps47
      go_upto_region 1 with fail
      rw [← hW]
      clear hW
      generalize w.heap.size = BE at *
      go_wp2_with fail
      refine (D1.out _ XL.out).mono ?_
      rintro e v1 ⟨rfl, hv⟩
      cases hv
      go_wp2_with fail
      refine (D2.out _ XH.out).mono ?_
      rintro e v1 ⟨rfl, hv⟩
      cases hv
      go_wp2_with fail
      refine (D2.out _ XH.out).mono ?_
      rintro e v1 ⟨rfl, hv⟩
      cases hv
      go_wp2_with fail
      refine (D1.out _ XL.out).mono ?_
      rintro e v1 ⟨rfl, hv⟩
      cases hv
      go_wp2_with fail
      refine (O.out _ XL.out XH.out).mono ?_
      rintro e v1 ⟨b, rfl, h1, h3⟩
      clear O e0 e1 e2 e3 e4 D1 D2
      go_wp2
      go_ret
      exact ⟨.nd b i q l h, rfl, h1.out, by unfold Hid; rw [EE.out]; rfl, G0.out.trans h3⟩
end Go.Proofs.Ytpikhdfndnpidaa
