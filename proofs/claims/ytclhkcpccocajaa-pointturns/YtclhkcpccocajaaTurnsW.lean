/- The law PointTurns, walked: for any four points and any shift the call returns true, and the memory that was there is as it was. -/
import Derived.Test.YtclhkcpccocajaaTurnsP
import Derived.Test.YtclhkcpccocajaaShf
namespace Go.Proofs.Ytclhkcpccocajaa
open Go.RowKit Go.Sort

/-- The four points lie there. -/
structure FourIs (W : World) (b : Nat) (ox oy ax ay bx by_ px py : Int) : Prop where
  c0 : W.cell? ⟨b, 0, none⟩ = some (.int .i32 ox)
  c1 : W.cell? ⟨b, 1, none⟩ = some (.int .i32 oy)
  c2 : W.cell? ⟨b, 2, none⟩ = some (.int .i32 ax)
  c3 : W.cell? ⟨b, 3, none⟩ = some (.int .i32 ay)
  c4 : W.cell? ⟨b, 4, none⟩ = some (.int .i32 bx)
  c5 : W.cell? ⟨b, 5, none⟩ = some (.int .i32 by_)
  c6 : W.cell? ⟨b, 6, none⟩ = some (.int .i32 px)
  c7 : W.cell? ⟨b, 7, none⟩ = some (.int .i32 py)
theorem FourIs.gr {W W' : World} {b : Nat} {ox oy ax ay bx by_ px py : Int} (h : FourIs W b ox oy ax ay bx by_ px py) (g : Gr W W') : FourIs W' b ox oy ax ay bx by_ px py :=
  ⟨below_cell h.c0 g.below, below_cell h.c1 g.below, below_cell h.c2 g.below, below_cell h.c3 g.below, below_cell h.c4 g.below, below_cell h.c5 g.below, below_cell h.c6 g.below, below_cell h.c7 g.below⟩
theorem FourIs.new (w : World) (ox oy ax ay bx by_ px py : Int) : FourIs (w.alloc (.cells #[.int .i32 ox, .int .i32 oy, .int .i32 ax, .int .i32 ay, .int .i32 bx, .int .i32 by_, .int .i32 px, .int .i32 py] 25)) w.heap.size ox oy ax ay bx by_ px py :=
  ⟨by go_simp, by go_simp, by go_simp, by go_simp, by go_simp, by go_simp, by go_simp, by go_simp⟩
structure TwoIs (W : World) (b : Nat) (x y : Int) : Prop where
  c0 : W.cell? ⟨b, 0, none⟩ = some (.int .i32 x)
  c1 : W.cell? ⟨b, 1, none⟩ = some (.int .i32 y)
theorem TwoIs.gr {W W' : World} {b : Nat} {x y : Int} (h : TwoIs W b x y) (g : Gr W W') : TwoIs W' b x y := ⟨below_cell h.c0 g.below, below_cell h.c1 g.below⟩
theorem TwoIs.new (w : World) (x y : Int) : TwoIs (w.alloc (.cells #[.int .i32 x, .int .i32 y] 23)) w.heap.size x y := ⟨by go_simp, by go_simp⟩
theorem in32_wrap (x : Int) : in32 (wrap32 x) := by unfold in32 wrap32; omega
abbrev fourV (ox oy ax ay bx by_ px py : Int) : Value := .agg #[.int .i32 ox, .int .i32 oy, .int .i32 ax, .int .i32 ay, .int .i32 bx, .int .i32 by_, .int .i32 px, .int .i32 py]

set_option maxRecDepth 20000 in
set_option maxHeartbeats 4000000 in
theorem turns_walk (ox oy ax ay bx by_ px py u v : Int) (h0 : in32 ox) (h1 : in32 oy) (h2 : in32 ax) (h3 : in32 ay) (h4 : in32 bx) (h5 : in32 by_) (h6 : in32 px) (h7 : in32 py) (h8 : in32 u) (h9 : in32 v) (w : World) :
    Calls Try.prog 6 #[fourV ox oy ax ay bx by_ px py, pt u v] w fun e w' => e = .returned (.bool true) ∧ Gr w w' := by
  obtain ⟨t, ht⟩ : ∃ t, t = turnI ox oy ax ay bx by_ := ⟨_, rfl⟩
  have tb : -1 ≤ t ∧ t ≤ 1 := ht ▸ turnI_bd ox oy ax ay bx by_
  have e64 : wrap64 (-t) = -t := by unfold wrap64; omega
  have T1 : Hid (∀ w, Calls Try.prog 20 #[pt ox oy, pt ax ay, pt bx by_] w fun e w' => e = .returned (.int .i64 t) ∧ Gr w w') := fun w => ht ▸ turn_any ox oy ax ay bx by_ h0 h1 h2 h3 h4 h5 w
  have T2 : Hid (∀ w, Calls Try.prog 20 #[pt ax ay, pt bx by_, pt ox oy] w fun e w' => e = .returned (.int .i64 t) ∧ Gr w w') := fun w => ht ▸ turn_cyc ox oy ax ay bx by_ ▸ turn_any ax ay bx by_ ox oy h2 h3 h4 h5 h0 h1 w
  have T3 : Hid (∀ w, Calls Try.prog 20 #[pt ox oy, pt bx by_, pt ax ay] w fun e w' => e = .returned (.int .i64 (-t)) ∧ Gr w w') := fun w => ht ▸ turn_back ox oy ax ay bx by_ ▸ turn_any ox oy bx by_ ax ay h0 h1 h4 h5 h2 h3 w
  have T4 : Hid (∀ w, Calls Try.prog 20 #[pt ox oy, pt ox oy, pt ax ay] w fun e w' => e = .returned (.int .i64 0) ∧ Gr w w') := fun w => turn_oo ox oy ax ay ▸ turn_any ox oy ox oy ax ay h0 h1 h0 h1 h2 h3 w
  have T5 : Hid (∀ w, Calls Try.prog 20 #[pt ox oy, pt ax ay, pt ax ay] w fun e w' => e = .returned (.int .i64 0) ∧ Gr w w') := fun w => turn_aa ox oy ax ay ▸ turn_any ox oy ax ay ax ay h0 h1 h2 h3 h2 h3 w
  have HT : Hid (t = turnI ox oy ax ay bx by_) := ht
  clear ht
  go_enter Try.func6, Try.ntmps6
  go_upto_region 1 with fail
  have hG : Gr w ((w.alloc (.cells #[.int .i32 ox, .int .i32 oy, .int .i32 ax, .int .i32 ay, .int .i32 bx, .int .i32 by_, .int .i32 px, .int .i32 py] 25)).alloc (.cells #[.int .i32 u, .int .i32 v] 23)) := ((Gr.refl _).alloc _).alloc _
  have F := (FourIs.new w ox oy ax ay bx by_ px py).gr ((Gr.refl _).alloc (.cells #[.int .i32 u, .int .i32 v] 23))
  have Y := TwoIs.new (w.alloc (.cells #[.int .i32 ox, .int .i32 oy, .int .i32 ax, .int .i32 ay, .int .i32 bx, .int .i32 by_, .int .i32 px, .int .i32 py] 25)) u v
  rw [World.size_alloc] at Y
  generalize (w.alloc (.cells #[.int .i32 ox, .int .i32 oy, .int .i32 ax, .int .i32 ay, .int .i32 bx, .int .i32 by_, .int .i32 px, .int .i32 py] 25)).alloc (.cells #[.int .i32 u, .int .i32 v] 23) = W at *
  have x0 := F.c0
  have x1 := F.c1
  have x2 := F.c2
  have x3 := F.c3
  have x4 := F.c4
  have x5 := F.c5
  have x6 := F.c6
  have x7 := F.c7
  go_wp2_with fail
  refine (T1.out _).mono ?_
  rintro e w1 ⟨rfl, g⟩
  replace hG := hG.trans g
  replace F := F.gr g
  replace Y := Y.gr g
  clear x0 x1 x2 x3 x4 x5 x6 x7
  clear g
  have x0 := F.c0
  have x1 := F.c1
  have x2 := F.c2
  have x3 := F.c3
  have x4 := F.c4
  have x5 := F.c5
  have x6 := F.c6
  have x7 := F.c7
  go_wp2_with fail
  refine (T2.out _).mono ?_
  rintro e w2 ⟨rfl, g⟩
  replace hG := hG.trans g
  replace F := F.gr g
  replace Y := Y.gr g
  clear x0 x1 x2 x3 x4 x5 x6 x7
  clear g
  have x0 := F.c0
  have x1 := F.c1
  have x2 := F.c2
  have x3 := F.c3
  have x4 := F.c4
  have x5 := F.c5
  have x6 := F.c6
  have x7 := F.c7
  go_wp2_with fail
  refine (T3.out _).mono ?_
  rintro e w3 ⟨rfl, g⟩
  replace hG := hG.trans g
  replace F := F.gr g
  replace Y := Y.gr g
  clear x0 x1 x2 x3 x4 x5 x6 x7
  clear g
  have x0 := F.c0
  have x1 := F.c1
  have x2 := F.c2
  have x3 := F.c3
  have x4 := F.c4
  have x5 := F.c5
  have x6 := F.c6
  have x7 := F.c7
  go_wp2_with fail
  refine (T4.out _).mono ?_
  rintro e w4 ⟨rfl, g⟩
  replace hG := hG.trans g
  replace F := F.gr g
  replace Y := Y.gr g
  clear x0 x1 x2 x3 x4 x5 x6 x7
  clear g
  have x0 := F.c0
  have x1 := F.c1
  have x2 := F.c2
  have x3 := F.c3
  have x4 := F.c4
  have x5 := F.c5
  have x6 := F.c6
  have x7 := F.c7
  go_wp2_with fail
  refine (T5.out _).mono ?_
  rintro e w5 ⟨rfl, g⟩
  replace hG := hG.trans g
  replace F := F.gr g
  replace Y := Y.gr g
  clear x0 x1 x2 x3 x4 x5 x6 x7
  clear g
  have x0 := F.c0
  have x1 := F.c1
  have x2 := F.c2
  have x3 := F.c3
  have x4 := F.c4
  have x5 := F.c5
  have x6 := F.c6
  have x7 := F.c7
  have B2 : Hid (∀ W x, W.cell? ⟨x, 0, none⟩ = some (.int .i32 ax) → W.cell? ⟨x, 1, none⟩ = some (.int .i32 ay) → W.cell? ⟨x, 2, none⟩ = some (.int .i32 bx) → W.cell? ⟨x, 3, none⟩ = some (.int .i32 by_) →
    Calls Try.prog 40 #[.slice (some ⟨x, 0, none⟩) 2 2] W fun e w' => e = .returned (.tuple #[bxv (boxOf ax ay bx by_), .bool true]) ∧ Gr W w') := fun W x c0 c1 c2 c3 => bounds_two W ax ay bx by_ x c0 c1 c2 c3
  clear T2 T3 T4 T5
  obtain ⟨R, hR⟩ : ∃ R, R = boxOf ax ay bx by_ := ⟨_, rfl⟩
  rw [← hR] at B2
  have O3 : Hid (onB px py ax ay bx by_ = (hasB R.1 R.2.1 R.2.2.1 R.2.2.2 px py && (turnI ax ay bx by_ px py == 0))) := by subst hR; rfl
  clear hR
  go_wp2_with fail
  refine (B2.out _ _ ?_ ?_ ?_ ?_).mono ?_
  · go_simp
  · go_simp
  · go_simp
  · go_simp
  rintro e w6 ⟨rfl, g⟩
  replace g := Gr.trans ((Gr.refl _).alloc _) g
  replace hG := hG.trans g
  replace F := F.gr g
  replace Y := Y.gr g
  clear x0 x1 x2 x3 x4 x5 x6 x7
  clear g B2
  go_upto_region 5 with fail
  have g : Gr w6 (w6.alloc (.cells #[.int .i32 R.1, .int .i32 R.2.1, .int .i32 R.2.2.1, .int .i32 R.2.2.2] 35)) := (Gr.refl _).alloc _
  have K := B4.new w6 (.int .i32 R.1) (.int .i32 R.2.1) (.int .i32 R.2.2.1) (.int .i32 R.2.2.2)
  replace hG := hG.trans g
  replace F := F.gr g
  replace Y := Y.gr g
  clear g
  generalize w6.alloc (.cells #[.int .i32 R.1, .int .i32 R.2.1, .int .i32 R.2.2.1, .int .i32 R.2.2.2] 35) = W7 at *
  have x0 := cell_gr F.c0
  have x1 := cell_gr F.c1
  have x2 := cell_gr F.c2
  have x3 := cell_gr F.c3
  have x4 := cell_gr F.c4
  have x5 := cell_gr F.c5
  have x6 := cell_gr F.c6
  have x7 := cell_gr F.c7
  have k0 := cell_gr K.c0
  have k1 := cell_gr K.c1
  have k2 := cell_gr K.c2
  have k3 := cell_gr K.c3
  have o1 : onB ax ay ax ay bx by_ = true := on_a ax ay bx by_
  have o2 : onB bx by_ ax ay bx by_ = true := on_b ax ay bx by_
  have o3 : onB px py ax ay bx by_ = (hasB R.1 R.2.1 R.2.2.1 R.2.2.2 px py && (turnI ax ay bx by_ px py == 0)) := O3.out
  clear O3
  go_cut [117] (fun s w' => s = .bool false ∧ Gr W7 w')
  case first => as_aux_lemma =>
    by_cases hz : turnI ax ay bx by_ px py = 0
    · have hz' : (turnI ax ay bx by_ px py == 0) = true := by simp [hz]
      rw [hz', Bool.and_true] at o3
      clear hz
      refine wp_region_quiet_grown (by as_aux_lemma => kernel_rfl) (by as_aux_lemma => kernel_rfl) ?_
      repeat (go_big_quiet_step (first
        | (go_at_call 24; refine Calls.grown_of (on_any _ _ _ _ _ _ ?_ ?_ ?_ ?_ ?_ ?_ _) <;> assumption)
        | (go_at_call 20; refine Calls.grown_of (turn_any _ _ _ _ _ _ ?_ ?_ ?_ ?_ ?_ ?_ _) <;> assumption)
        | (go_at_call 28; exact Calls.grown_of (has_any _ _ _ _ _ _ _))))
      refine wpQuiet_nil ?_
      intro _ hw'
      obtain ⟨⟨nq, osq⟩, hw''⟩ := hw'
      subst hw''
      go_wp2
      go_meet
      case rel => exact ⟨rfl, ⟨nq, osq, rfl⟩⟩
    · have hz' : (turnI ax ay bx by_ px py == 0) = false := by simp [hz]
      rw [hz', Bool.and_false] at o3
      clear hz
      refine wp_region_quiet_grown (by as_aux_lemma => kernel_rfl) (by as_aux_lemma => kernel_rfl) ?_
      repeat (go_big_quiet_step (first
        | (go_at_call 24; refine Calls.grown_of (on_any _ _ _ _ _ _ ?_ ?_ ?_ ?_ ?_ ?_ _) <;> assumption)
        | (go_at_call 20; refine Calls.grown_of (turn_any _ _ _ _ _ _ ?_ ?_ ?_ ?_ ?_ ?_ _) <;> assumption)
        | (go_at_call 28; exact Calls.grown_of (has_any _ _ _ _ _ _ _))))
      refine wpQuiet_nil ?_
      intro _ hw'
      obtain ⟨⟨nq, osq⟩, hw''⟩ := hw'
      subst hw''
      go_wp2
      go_meet
      case rel => exact ⟨rfl, ⟨nq, osq, rfl⟩⟩
  case rest => as_aux_lemma =>
    obtain ⟨rfl, g⟩ := hcut
    clear o1 o2 o3
    replace hG := hG.trans g
    replace F := F.gr g
    replace Y := Y.gr g
    clear g x0 x1 x2 x3 x4 x5 x6 x7 k0 k1 k2 k3 K
    have C0 : Hid (∀ w, Calls Try.prog 42 #[pt ox oy, pt u v] w fun e w' => e = .returned (.tuple #[pt (wrap32 (ox + u)) (wrap32 (oy + v)), .bool ((wrap32 (ox + u) == ox + u) && (wrap32 (oy + v) == oy + v))]) ∧ Gr w w') := shifted_any ox oy u v h0 h1 h8 h9
    have C1 : Hid (∀ w, Calls Try.prog 42 #[pt ax ay, pt u v] w fun e w' => e = .returned (.tuple #[pt (wrap32 (ax + u)) (wrap32 (ay + v)), .bool ((wrap32 (ax + u) == ax + u) && (wrap32 (ay + v) == ay + v))]) ∧ Gr w w') := shifted_any ax ay u v h2 h3 h8 h9
    have C2 : Hid (∀ w, Calls Try.prog 42 #[pt bx by_, pt u v] w fun e w' => e = .returned (.tuple #[pt (wrap32 (bx + u)) (wrap32 (by_ + v)), .bool ((wrap32 (bx + u) == bx + u) && (wrap32 (by_ + v) == by_ + v))]) ∧ Gr w w') := shifted_any bx by_ u v h4 h5 h8 h9
    go_upto_region 7 with fail
    go_cut [130] (fun s w' => ∃ c : Bool, s = .bool c ∧ (c = true → latB ox = true ∧ latB oy = true ∧ latB ax = true ∧ latB ay = true ∧ latB bx = true ∧ latB by_ = true) ∧ Gr wc w')
    case first => as_aux_lemma =>
      have hW : Gr wc wc := Gr.refl _
      have x0 := F.c0
      have x1 := F.c1
      have x2 := F.c2
      have x3 := F.c3
      have x4 := F.c4
      have x5 := F.c5
      have x6 := F.c6
      have x7 := F.c7
      cases hN0 : (latB ox && latB oy) with
      | false =>
        have N0 : Hid (∀ w, Calls Try.prog 9 #[pt ox oy] w fun e w' => e = .returned (.bool false) ∧ Gr w w') := fun w => by rw [← hN0]; exact in_any ox oy w
        go_wp2_with fail
        refine (N0.out _).mono ?_
        rintro e v1 ⟨rfl, g⟩
        replace hW := hW.trans g
        replace F := F.gr g
        replace Y := Y.gr g
        clear x0 x1 x2 x3 x4 x5 x6 x7
        clear g
        have x0 := F.c0
        have x1 := F.c1
        have x2 := F.c2
        have x3 := F.c3
        have x4 := F.c4
        have x5 := F.c5
        have x6 := F.c6
        have x7 := F.c7
        go_wp2
        go_meet
        case rel => exact ⟨false, rfl, fun h => (by simp at h), hW⟩
      | true =>
        have N0 : Hid (∀ w, Calls Try.prog 9 #[pt ox oy] w fun e w' => e = .returned (.bool true) ∧ Gr w w') := fun w => by rw [← hN0]; exact in_any ox oy w
        go_wp2_with fail
        refine (N0.out _).mono ?_
        rintro e v1 ⟨rfl, g⟩
        replace hW := hW.trans g
        replace F := F.gr g
        replace Y := Y.gr g
        clear x0 x1 x2 x3 x4 x5 x6 x7
        clear g
        have x0 := F.c0
        have x1 := F.c1
        have x2 := F.c2
        have x3 := F.c3
        have x4 := F.c4
        have x5 := F.c5
        have x6 := F.c6
        have x7 := F.c7
        cases hN1 : (latB ax && latB ay) with
        | false =>
          have N1 : Hid (∀ w, Calls Try.prog 9 #[pt ax ay] w fun e w' => e = .returned (.bool false) ∧ Gr w w') := fun w => by rw [← hN1]; exact in_any ax ay w
          go_wp2_with fail
          refine (N1.out _).mono ?_
          rintro e v2 ⟨rfl, g⟩
          replace hW := hW.trans g
          replace F := F.gr g
          replace Y := Y.gr g
          clear x0 x1 x2 x3 x4 x5 x6 x7
          clear g
          have x0 := F.c0
          have x1 := F.c1
          have x2 := F.c2
          have x3 := F.c3
          have x4 := F.c4
          have x5 := F.c5
          have x6 := F.c6
          have x7 := F.c7
          go_wp2
          go_meet
          case rel => exact ⟨false, rfl, fun h => (by simp at h), hW⟩
        | true =>
          have N1 : Hid (∀ w, Calls Try.prog 9 #[pt ax ay] w fun e w' => e = .returned (.bool true) ∧ Gr w w') := fun w => by rw [← hN1]; exact in_any ax ay w
          go_wp2_with fail
          refine (N1.out _).mono ?_
          rintro e v2 ⟨rfl, g⟩
          replace hW := hW.trans g
          replace F := F.gr g
          replace Y := Y.gr g
          clear x0 x1 x2 x3 x4 x5 x6 x7
          clear g
          have x0 := F.c0
          have x1 := F.c1
          have x2 := F.c2
          have x3 := F.c3
          have x4 := F.c4
          have x5 := F.c5
          have x6 := F.c6
          have x7 := F.c7
          cases hN2 : (latB bx && latB by_) with
          | false =>
            have N2 : Hid (∀ w, Calls Try.prog 9 #[pt bx by_] w fun e w' => e = .returned (.bool false) ∧ Gr w w') := fun w => by rw [← hN2]; exact in_any bx by_ w
            go_wp2_with fail
            refine (N2.out _).mono ?_
            rintro e v3 ⟨rfl, g⟩
            replace hW := hW.trans g
            replace F := F.gr g
            replace Y := Y.gr g
            clear x0 x1 x2 x3 x4 x5 x6 x7
            clear g
            have x0 := F.c0
            have x1 := F.c1
            have x2 := F.c2
            have x3 := F.c3
            have x4 := F.c4
            have x5 := F.c5
            have x6 := F.c6
            have x7 := F.c7
            go_wp2
            go_meet
            case rel => exact ⟨false, rfl, fun h => (by simp at h), hW⟩
          | true =>
            have N2 : Hid (∀ w, Calls Try.prog 9 #[pt bx by_] w fun e w' => e = .returned (.bool true) ∧ Gr w w') := fun w => by rw [← hN2]; exact in_any bx by_ w
            go_wp2_with fail
            refine (N2.out _).mono ?_
            rintro e v3 ⟨rfl, g⟩
            replace hW := hW.trans g
            replace F := F.gr g
            replace Y := Y.gr g
            clear x0 x1 x2 x3 x4 x5 x6 x7
            clear g
            have x0 := F.c0
            have x1 := F.c1
            have x2 := F.c2
            have x3 := F.c3
            have x4 := F.c4
            have x5 := F.c5
            have x6 := F.c6
            have x7 := F.c7
            go_wp2
            go_meet
            case rel =>
              simp only [Bool.and_eq_true] at hN0 hN1 hN2
              exact ⟨true, rfl, fun _ => ⟨hN0.1, hN0.2, hN1.1, hN1.2, hN2.1, hN2.2⟩, hW⟩
    case rest => as_aux_lemma =>
      obtain ⟨c, rfl, hc, g⟩ := hcut
      replace hG := hG.trans g
      replace F := F.gr g
      replace Y := Y.gr g
      clear g
      go_upto_if 130 with fail
      go_cut [] (fun w' => Gr wc w')
      case first => as_aux_lemma =>
        cases c with
        | false =>
          go_wp2
          go_meet
          case rel => exact Gr.refl _
        | true =>
          obtain ⟨l0, l1, l2, l3, l4, l5⟩ := hc rfl
          have S := cross_sign ox oy ax ay bx by_
          have CR : Hid (∀ w, Calls Try.prog 14 #[pt ox oy, pt ax ay, pt bx by_] w fun e w' => e = .returned (.int .i64 ((ax - ox) * (by_ - oy) - (ay - oy) * (bx - ox))) ∧ Gr w w') := fun w => by
            have h := cross_any ox oy ax ay bx by_ h0 h1 h2 h3 h4 h5 w
            rw [cross_fits l0 l1 l2 l3 l4 l5] at h
            exact h
          have DR : Hid (∀ w, Calls Try.prog 18 #[pt ox oy, pt ax ay] w fun e w' => e = .returned (.int .i64 ((ax - ox) * (ax - ox) + (ay - oy) * (ay - oy))) ∧ Gr w w') := fun w => by
            have h := dist2_any ox oy ax ay h0 h1 h2 h3 w
            rw [dist_fits l0 l1 l2 l3] at h
            exact h
          have dn := dist_nonneg ox oy ax ay
          have dz := dist_zero ox oy ax ay
          rw [← HT.out] at S
          clear hc l0 l1 l2 l3 l4 l5
          generalize (ax - ox) * (by_ - oy) - (ay - oy) * (bx - ox) = cv at *
          generalize (ax - ox) * (ax - ox) + (ay - oy) * (ay - oy) = dv at *
          have dn' : decide (dv < 0) = false := decide_eq_false (by omega)
          obtain ⟨B1, s1, s3⟩ : ∃ B, decide (0 < cv) = B ∧ decide (0 < t) = B := ⟨_, rfl, by rw [decide_eq_decide]; exact S.1.symm⟩
          obtain ⟨B3, s2, s4⟩ : ∃ B, decide (cv < 0) = B ∧ decide (t < 0) = B := ⟨_, rfl, by rw [decide_eq_decide]; exact S.2.symm⟩
          obtain ⟨E1, q1⟩ : ∃ B, (ox == ax) = B := ⟨_, rfl⟩
          obtain ⟨E2, q2⟩ : ∃ B, (oy == ay) = B := ⟨_, rfl⟩
          rw [q1, q2] at dz
          clear dn S
          have x0 := F.c0
          have x1 := F.c1
          have x2 := F.c2
          have x3 := F.c3
          have x4 := F.c4
          have x5 := F.c5
          have x6 := F.c6
          have x7 := F.c7
          have hW : Gr wc wc := Gr.refl _
          go_wp2_with fail
          refine (CR.out _).mono ?_
          rintro e v4 ⟨rfl, g⟩
          replace hW := hW.trans g
          replace F := F.gr g
          clear x0 x1 x2 x3 x4 x5 x6 x7
          clear g
          go_upto_region 9 with fail
          have x0 := cell_gr F.c0
          have x1 := cell_gr F.c1
          have x2 := cell_gr F.c2
          have x3 := cell_gr F.c3
          have x4 := cell_gr F.c4
          have x5 := cell_gr F.c5
          have x6 := cell_gr F.c6
          have x7 := cell_gr F.c7
          refine wp_region_quiet_grown (by as_aux_lemma => kernel_rfl) (by as_aux_lemma => kernel_rfl) ?_
          repeat (go_big_quiet_step (first | (go_at_call 18; exact Calls.grown_of (DR.out _))))
          clear dz
          cases E1 <;> cases E2
          all_goals
            repeat (go_big_quiet_step (first | (go_at_call 18; exact Calls.grown_of (DR.out _))))
            refine wpQuiet_nil ?_
            intro _ hw'
            obtain ⟨⟨nq, osq⟩, hw''⟩ := hw'
            subst hw''
            go_wp2
            go_meet
            case rel => exact hW.trans ⟨nq, osq, rfl⟩
      case rest => as_aux_lemma =>
        clear hc
        replace hG := hG.trans hcut
        replace F := F.gr hcut
        replace Y := Y.gr hcut
        clear hcut
        have T9 : Hid (((wrap32 (ox + u) == ox + u) && (wrap32 (oy + v) == oy + v)) = true → ((wrap32 (ax + u) == ax + u) && (wrap32 (ay + v) == ay + v)) = true → ((wrap32 (bx + u) == bx + u) && (wrap32 (by_ + v) == by_ + v)) = true →
            ∀ w, Calls Try.prog 20 #[pt (wrap32 (ox + u)) (wrap32 (oy + v)), pt (wrap32 (ax + u)) (wrap32 (ay + v)), pt (wrap32 (bx + u)) (wrap32 (by_ + v))] w fun e w' => e = .returned (.int .i64 t) ∧ Gr w w') := by
          intro p0 p1 p2 w
          simp only [Bool.and_eq_true, beq_iff_eq] at p0 p1 p2
          have h := turn_any _ _ _ _ _ _ (in32_wrap (ox + u)) (in32_wrap (oy + v)) (in32_wrap (ax + u)) (in32_wrap (ay + v)) (in32_wrap (bx + u)) (in32_wrap (by_ + v)) w
          rw [p0.1, p0.2, p1.1, p1.2, p2.1, p2.2, turn_shift] at h
          rw [p0.1, p0.2, p1.1, p1.2, p2.1, p2.2, HT.out]
          exact h
        generalize ((wrap32 (ox + u) == ox + u) && (wrap32 (oy + v) == oy + v)) = b0 at *
        generalize ((wrap32 (ax + u) == ax + u) && (wrap32 (ay + v) == ay + v)) = b1 at *
        generalize ((wrap32 (bx + u) == bx + u) && (wrap32 (by_ + v) == by_ + v)) = b2 at *
        generalize wrap32 (ox + u) = X0 at *
        generalize wrap32 (oy + v) = Y0 at *
        generalize wrap32 (ax + u) = X1 at *
        generalize wrap32 (ay + v) = Y1 at *
        generalize wrap32 (bx + u) = X2 at *
        generalize wrap32 (by_ + v) = Y2 at *
        have x0 := F.c0
        have x1 := F.c1
        have x2 := F.c2
        have x3 := F.c3
        have x4 := F.c4
        have x5 := F.c5
        have x6 := F.c6
        have x7 := F.c7
        have y0 := Y.c0
        have y1 := Y.c1
        go_wp2_with fail
        refine (C0.out _).mono ?_
        rintro e z0 ⟨rfl, g⟩
        replace hG := hG.trans g
        replace F := F.gr g
        replace Y := Y.gr g
        clear x0 x1 x2 x3 x4 x5 x6 x7 y0 y1
        clear g
        go_upto_region 12 with fail
        have g : Gr z0 (z0.alloc (.cells #[.int .i32 X0, .int .i32 Y0] 23)) := (Gr.refl _).alloc _
        have Z0 := TwoIs.new z0 X0 Y0
        replace hG := hG.trans g
        replace F := F.gr g
        replace Y := Y.gr g
        clear g
        generalize z0.alloc (.cells #[.int .i32 X0, .int .i32 Y0] 23) = V0 at *
        have x0 := F.c0
        have x1 := F.c1
        have x2 := F.c2
        have x3 := F.c3
        have x4 := F.c4
        have x5 := F.c5
        have x6 := F.c6
        have x7 := F.c7
        have y0 := Y.c0
        have y1 := Y.c1
        go_wp2_with fail
        refine (C1.out _).mono ?_
        rintro e z1 ⟨rfl, g⟩
        replace hG := hG.trans g
        replace F := F.gr g
        replace Y := Y.gr g
        replace Z0 := Z0.gr g
        clear x0 x1 x2 x3 x4 x5 x6 x7 y0 y1
        clear g
        go_upto_region 13 with fail
        have g : Gr z1 (z1.alloc (.cells #[.int .i32 X1, .int .i32 Y1] 23)) := (Gr.refl _).alloc _
        have Z1 := TwoIs.new z1 X1 Y1
        replace hG := hG.trans g
        replace F := F.gr g
        replace Y := Y.gr g
        replace Z0 := Z0.gr g
        clear g
        generalize z1.alloc (.cells #[.int .i32 X1, .int .i32 Y1] 23) = V1 at *
        have x0 := F.c0
        have x1 := F.c1
        have x2 := F.c2
        have x3 := F.c3
        have x4 := F.c4
        have x5 := F.c5
        have x6 := F.c6
        have x7 := F.c7
        have y0 := Y.c0
        have y1 := Y.c1
        go_wp2_with fail
        refine (C2.out _).mono ?_
        rintro e z2 ⟨rfl, g⟩
        replace hG := hG.trans g
        replace F := F.gr g
        replace Y := Y.gr g
        replace Z0 := Z0.gr g
        replace Z1 := Z1.gr g
        clear x0 x1 x2 x3 x4 x5 x6 x7 y0 y1
        clear g
        go_upto_region 14 with fail
        have g : Gr z2 (z2.alloc (.cells #[.int .i32 X2, .int .i32 Y2] 23)) := (Gr.refl _).alloc _
        have Z2 := TwoIs.new z2 X2 Y2
        replace hG := hG.trans g
        replace F := F.gr g
        replace Y := Y.gr g
        replace Z0 := Z0.gr g
        replace Z1 := Z1.gr g
        clear g
        generalize z2.alloc (.cells #[.int .i32 X2, .int .i32 Y2] 23) = V2 at *
        have x0 := F.c0
        have x1 := F.c1
        have x2 := F.c2
        have x3 := F.c3
        have x4 := F.c4
        have x5 := F.c5
        have x6 := F.c6
        have x7 := F.c7
        have y0 := Y.c0
        have y1 := Y.c1
        have a0 := Z0.c0
        have a1 := Z0.c1
        have a2 := Z1.c0
        have a3 := Z1.c1
        have a4 := Z2.c0
        have a5 := Z2.c1
        cases b0 with
        | false =>
          go_wp2
          go_ret
          exact ⟨rfl, hG⟩
        | true =>
          cases b1 with
          | false =>
            go_wp2
            go_ret
            exact ⟨rfl, hG⟩
          | true =>
            cases b2 with
            | false =>
              go_wp2
              go_ret
              exact ⟨rfl, hG⟩
            | true =>
              go_wp2_with fail
              refine (T9.out (by first | rfl | trivial) (by first | rfl | trivial) (by first | rfl | trivial) _).mono ?_
              rintro e z4 ⟨rfl, g⟩
              go_wp2
              go_ret
              exact ⟨rfl, hG.trans g⟩
end Go.Proofs.Ytclhkcpccocajaa
