/- SegMoved's walk. -/
import Derived.Test.YtagabccaipfjeaaMv
namespace Go.Proofs.Ytagabccaipfjeaa
open Go.RowKit Go.Sort

theorem Meet_c (ax a_y bx b_y cx c_y dx d_y : Int) (w : World) : Calls Try.prog 8 #[pt ax a_y, pt bx b_y, pt cx c_y, pt dx d_y] w fun e w' => e = .returned (mtv (meetA (ax, a_y) (bx, b_y) (cx, c_y) (dx, d_y))) ∧ Gr w w' := Meet_any (ax, a_y) (bx, b_y) (cx, c_y) (dx, d_y) w
theorem Touch_c (ax a_y bx b_y cx c_y dx d_y : Int) (w : World) : Calls Try.prog 9 #[pt ax a_y, pt bx b_y, pt cx c_y, pt dx d_y] w fun e w' => e = .returned (.bool (touchA (ax, a_y) (bx, b_y) (cx, c_y) (dx, d_y))) ∧ Gr w w' := Touch_any (ax, a_y) (bx, b_y) (cx, c_y) (dx, d_y) w
theorem NearSeg_c (ax a_y bx b_y cx c_y dx d_y : Int) (r : Int) (w : World) : Calls Try.prog 15 #[pt ax a_y, pt bx b_y, pt cx c_y, pt dx d_y, .int .i64 r] w fun e w' => e = .returned (.bool (nearS (ax, a_y) (bx, b_y) (cx, c_y) (dx, d_y) r)) ∧ Gr w w' := NearSeg_any (ax, a_y) (bx, b_y) (cx, c_y) (dx, d_y) r w
theorem Near_c (px p_y ax a_y bx b_y : Int) (r : Int) (w : World) : Calls Try.prog 13 #[pt px p_y, pt ax a_y, pt bx b_y, .int .i64 r] w fun e w' => e = .returned (.bool (nearA (px, p_y) (ax, a_y) (bx, b_y) r)) ∧ Gr w w' := Near_any (px, p_y) (ax, a_y) (bx, b_y) r w
theorem Foot_c (px p_y ax a_y bx b_y : Int) (w : World) : Calls Try.prog 11 #[pt px p_y, pt ax a_y, pt bx b_y] w fun e w' => e = .returned (frv (footA (px, p_y) (ax, a_y) (bx, b_y))) ∧ Gr w w' := Foot_any (px, p_y) (ax, a_y) (bx, b_y) w
theorem rin_c (x y : Int) (w : World) : Calls Try.prog 18 #[pt x y] w fun e w' => e = .returned (.bool (latP (x, y))) ∧ Gr w w' := rin_any (x, y) w
def M4 (w : World) (b : Nat) (x0 x1 x2 x3 : Value) : Prop := w.heap[b]? = some (.cells #[x0, x1, x2, x3] 43 (0, 0))
section
variable {w w' : World} {b : Nat} {x0 x1 x2 x3 : Value}
theorem M4.lt (h : M4 w b x0 x1 x2 x3) : b < w.heap.size := lt_of_block h
theorem M4.c0 (h : M4 w b x0 x1 x2 x3) : w.cell? ⟨b, 0, none⟩ = some x0 := by unfold M4 at h; simp [World.cell?, h]
theorem M4.c1 (h : M4 w b x0 x1 x2 x3) : w.cell? ⟨b, 1, none⟩ = some x1 := by unfold M4 at h; simp [World.cell?, h]
theorem M4.c2 (h : M4 w b x0 x1 x2 x3) : w.cell? ⟨b, 2, none⟩ = some x2 := by unfold M4 at h; simp [World.cell?, h]
theorem M4.c3 (h : M4 w b x0 x1 x2 x3) : w.cell? ⟨b, 3, none⟩ = some x3 := by unfold M4 at h; simp [World.cell?, h]
theorem M4.f (h : M4 w b x0 x1 x2 x3) (o : Nat) : w.frozen? ⟨b, o, none⟩ = false := by unfold M4 at h; simp [World.frozen?, h]
theorem M4.at (h : M4 w b x0 x1 x2 x3) : w.heap[b]'(h.lt) = .cells #[x0, x1, x2, x3] 43 (0, 0) := by
  have hlt := h.lt
  unfold M4 at h; simpa [Array.getElem?_eq_getElem hlt] using h
theorem M4.s0 (h : M4 w b x0 x1 x2 x3) (z : Value) : M4 (w.setCell ⟨b, 0, none⟩ z) b z x1 x2 x3 := by
  have hlt := h.lt
  show (w.heap.modify b _)[b]? = _
  rw [Array.getElem?_eq_getElem (by simpa using hlt), Array.getElem_modify_self, h.at]; rfl
theorem M4.s1 (h : M4 w b x0 x1 x2 x3) (z : Value) : M4 (w.setCell ⟨b, 1, none⟩ z) b x0 z x2 x3 := by
  have hlt := h.lt
  show (w.heap.modify b _)[b]? = _
  rw [Array.getElem?_eq_getElem (by simpa using hlt), Array.getElem_modify_self, h.at]; rfl
theorem M4.s2 (h : M4 w b x0 x1 x2 x3) (z : Value) : M4 (w.setCell ⟨b, 2, none⟩ z) b x0 x1 z x3 := by
  have hlt := h.lt
  show (w.heap.modify b _)[b]? = _
  rw [Array.getElem?_eq_getElem (by simpa using hlt), Array.getElem_modify_self, h.at]; rfl
theorem M4.s3 (h : M4 w b x0 x1 x2 x3) (z : Value) : M4 (w.setCell ⟨b, 3, none⟩ z) b x0 x1 x2 z := by
  have hlt := h.lt
  show (w.heap.modify b _)[b]? = _
  rw [Array.getElem?_eq_getElem (by simpa using hlt), Array.getElem_modify_self, h.at]; rfl
theorem M4.mono {B : Nat} (h : M4 w b x0 x1 x2 x3) (g : Below B w w') (hb : b < B) : M4 w' b x0 x1 x2 x3 := by
  unfold M4; rw [g.block b hb]; exact h
theorem M4.other (h : M4 w b x0 x1 x2 x3) {p : Addr} (hp : b ≠ p.block) (z : Value) : M4 (w.setCell p z) b x0 x1 x2 x3 := by
  unfold M4; rw [Below.heap_setCell _ _ _ _ hp]; exact h
theorem M4.gr (h : M4 w b x0 x1 x2 x3) (g : Gr w w') : M4 w' b x0 x1 x2 x3 := h.mono g.below h.lt
end
theorem M4.new (w : World) (x0 x1 x2 x3 : Value) : M4 (w.alloc (.cells #[x0, x1, x2, x3] 43)) w.heap.size x0 x1 x2 x3 := heap_alloc_new w _
theorem and3 (Q : Int) : ∃ k : Nat, k ≤ 3 ∧ bits .and .i64 Q 3 = (k : Int) := by
  refine ⟨(BitVec.ofInt 64 Q &&& BitVec.ofInt 64 3).toNat, ?_, ?_⟩
  · rw [BitVec.toNat_and]; exact Nat.and_le_right
  · have h : (BitVec.ofInt 64 Q &&& BitVec.ofInt 64 3).toNat ≤ 3 := by rw [BitVec.toNat_and]; exact Nat.and_le_right
    show IntKind.i64.wrap ((BitVec.ofInt 64 Q &&& BitVec.ofInt 64 3).toNat : Int) = _
    generalize (BitVec.ofInt 64 Q &&& BitVec.ofInt 64 3).toNat = n at h
    have : n = 0 ∨ n = 1 ∨ n = 2 ∨ n = 3 := by omega
    rcases this with rfl | rfl | rfl | rfl <;> rfl
set_option maxRecDepth 20000 in
set_option maxHeartbeats 4000000 in
theorem moved_walk (ax ay bx by_ cx cy dx dy : Int) (m : Bool) (Q ex ey r : Int) (h0 : in32 ax) (h1 : in32 ay) (h2 : in32 bx) (h3 : in32 by_) (h4 : in32 cx) (h5 : in32 cy) (h6 : in32 dx) (h7 : in32 dy) (w : World) :
    Calls Try.prog 6 #[fourV ax ay bx by_ cx cy dx dy, .agg #[.bool m, .int .i64 Q, .int .i64 ex, .int .i64 ey], .int .i64 r] w fun e w' => e = .returned (.bool true) ∧ Gr w w' := by
  obtain ⟨k, hk, hK⟩ := and3 Q
  obtain ⟨u0, v0, B0, hc0, hm0⟩ : ∃ (x y : Int) (B : Bool), Hid (∀ w, Calls Try.prog 19 #[pt ax ay, .bool m, .int .i64 (k : Int), .int .i64 ex, .int .i64 ey] w fun e w' => e = .returned (.tuple #[pt x y, .bool B]) ∧ Gr w w') ∧ Hid (B = true → (x, y) = movP m k ex ey (ax, ay) ∧ lat (x, y)) := by
    refine ⟨(movA (ax, ay) m k ex ey).1.1, (movA (ax, ay) m k ex ey).1.2, (movA (ax, ay) m k ex ey).2, fun w => moved_any (ax, ay) m k ex ey w ⟨h0, h1⟩ hk, fun h => ?_⟩
    unfold movA at *
    split at h
    · rename_i hh
      rw [if_pos hh]
      exact ⟨rfl, hh.2⟩
    · simp at h
  obtain ⟨u1, v1, B1, hc1, hm1⟩ : ∃ (x y : Int) (B : Bool), Hid (∀ w, Calls Try.prog 19 #[pt bx by_, .bool m, .int .i64 (k : Int), .int .i64 ex, .int .i64 ey] w fun e w' => e = .returned (.tuple #[pt x y, .bool B]) ∧ Gr w w') ∧ Hid (B = true → (x, y) = movP m k ex ey (bx, by_) ∧ lat (x, y)) := by
    refine ⟨(movA (bx, by_) m k ex ey).1.1, (movA (bx, by_) m k ex ey).1.2, (movA (bx, by_) m k ex ey).2, fun w => moved_any (bx, by_) m k ex ey w ⟨h2, h3⟩ hk, fun h => ?_⟩
    unfold movA at *
    split at h
    · rename_i hh
      rw [if_pos hh]
      exact ⟨rfl, hh.2⟩
    · simp at h
  obtain ⟨u2, v2, B2, hc2, hm2⟩ : ∃ (x y : Int) (B : Bool), Hid (∀ w, Calls Try.prog 19 #[pt cx cy, .bool m, .int .i64 (k : Int), .int .i64 ex, .int .i64 ey] w fun e w' => e = .returned (.tuple #[pt x y, .bool B]) ∧ Gr w w') ∧ Hid (B = true → (x, y) = movP m k ex ey (cx, cy) ∧ lat (x, y)) := by
    refine ⟨(movA (cx, cy) m k ex ey).1.1, (movA (cx, cy) m k ex ey).1.2, (movA (cx, cy) m k ex ey).2, fun w => moved_any (cx, cy) m k ex ey w ⟨h4, h5⟩ hk, fun h => ?_⟩
    unfold movA at *
    split at h
    · rename_i hh
      rw [if_pos hh]
      exact ⟨rfl, hh.2⟩
    · simp at h
  obtain ⟨u3, v3, B3, hc3, hm3⟩ : ∃ (x y : Int) (B : Bool), Hid (∀ w, Calls Try.prog 19 #[pt dx dy, .bool m, .int .i64 (k : Int), .int .i64 ex, .int .i64 ey] w fun e w' => e = .returned (.tuple #[pt x y, .bool B]) ∧ Gr w w') ∧ Hid (B = true → (x, y) = movP m k ex ey (dx, dy) ∧ lat (x, y)) := by
    refine ⟨(movA (dx, dy) m k ex ey).1.1, (movA (dx, dy) m k ex ey).1.2, (movA (dx, dy) m k ex ey).2, fun w => moved_any (dx, dy) m k ex ey w ⟨h6, h7⟩ hk, fun h => ?_⟩
    unfold movA at *
    split at h
    · rename_i hh
      rw [if_pos hh]
      exact ⟨rfl, hh.2⟩
    · simp at h
  have hF : FourIs ((w.alloc (.cells #[.int .i32 ax, .int .i32 ay, .int .i32 bx, .int .i32 by_, .int .i32 cx, .int .i32 cy, .int .i32 dx, .int .i32 dy] 25)).alloc (.cells #[.bool m, .int .i64 Q, .int .i64 ex, .int .i64 ey] 43)) w.heap.size ax ay bx by_ cx cy dx dy := (FourIs.new w ax ay bx by_ cx cy dx dy).gr ((Gr.refl _).alloc _)
  have hV : M4 ((w.alloc (.cells #[.int .i32 ax, .int .i32 ay, .int .i32 bx, .int .i32 by_, .int .i32 cx, .int .i32 cy, .int .i32 dx, .int .i32 dy] 25)).alloc (.cells #[.bool m, .int .i64 Q, .int .i64 ex, .int .i64 ey] 43)) (w.heap.size + 1) (.bool m) (.int .i64 Q) (.int .i64 ex) (.int .i64 ey) := by
    have := M4.new (w.alloc (.cells #[.int .i32 ax, .int .i32 ay, .int .i32 bx, .int .i32 by_, .int .i32 cx, .int .i32 cy, .int .i32 dx, .int .i32 dy] 25)) (.bool m) (.int .i64 Q) (.int .i64 ex) (.int .i64 ey)
    simpa using this
  have hG : Gr w ((w.alloc (.cells #[.int .i32 ax, .int .i32 ay, .int .i32 bx, .int .i32 by_, .int .i32 cx, .int .i32 cy, .int .i32 dx, .int .i32 dy] 25)).alloc (.cells #[.bool m, .int .i64 Q, .int .i64 ex, .int .i64 ey] 43)) := ((Gr.refl _).alloc _).alloc _
  have a0 := hF.c0
  have a1 := hF.c1
  have y0 := hV.c0
  have y1 := hV.c1
  have y2 := hV.c2
  have y3 := hV.c3
  go_enter Try.func6, Try.ntmps6
  go_wp2_with fail
  refine (hc0.out _).mono ?_
  rintro e w0 ⟨rfl, q0⟩
  clear a0 a1 y0 y1 y2 y3
  have g0 := (Gr.refl w0).alloc (.cells #[.int .i32 u0, .int .i32 v0] 23)
  replace hF := (hF.gr q0).gr g0
  replace hV := (hV.gr q0).gr g0
  replace hG := (hG.trans q0).trans g0
  have k0 : TwoIs (w0.alloc (.cells #[.int .i32 u0, .int .i32 v0] 23)) w0.heap.size u0 v0 := TwoIs.new w0 u0 v0
  clear q0 g0 hc0
  have a0 := hF.c2
  have a1 := hF.c3
  have y0 := hV.c0
  have y1 := hV.c1
  have y2 := hV.c2
  have y3 := hV.c3
  go_wp2_with fail
  refine (hc1.out _).mono ?_
  rintro e w1 ⟨rfl, q1⟩
  clear a0 a1 y0 y1 y2 y3
  have g1 := (Gr.refl w1).alloc (.cells #[.int .i32 u1, .int .i32 v1] 23)
  replace hF := (hF.gr q1).gr g1
  replace hV := (hV.gr q1).gr g1
  replace hG := (hG.trans q1).trans g1
  replace k0 := (k0.gr q1).gr g1
  have k1 : TwoIs (w1.alloc (.cells #[.int .i32 u1, .int .i32 v1] 23)) w1.heap.size u1 v1 := TwoIs.new w1 u1 v1
  clear q1 g1 hc1
  have a0 := hF.c4
  have a1 := hF.c5
  have y0 := hV.c0
  have y1 := hV.c1
  have y2 := hV.c2
  have y3 := hV.c3
  go_wp2_with fail
  refine (hc2.out _).mono ?_
  rintro e w2 ⟨rfl, q2⟩
  clear a0 a1 y0 y1 y2 y3
  have g2 := (Gr.refl w2).alloc (.cells #[.int .i32 u2, .int .i32 v2] 23)
  replace hF := (hF.gr q2).gr g2
  replace hV := (hV.gr q2).gr g2
  replace hG := (hG.trans q2).trans g2
  replace k0 := (k0.gr q2).gr g2
  replace k1 := (k1.gr q2).gr g2
  have k2 : TwoIs (w2.alloc (.cells #[.int .i32 u2, .int .i32 v2] 23)) w2.heap.size u2 v2 := TwoIs.new w2 u2 v2
  clear q2 g2 hc2
  have a0 := hF.c6
  have a1 := hF.c7
  have y0 := hV.c0
  have y1 := hV.c1
  have y2 := hV.c2
  have y3 := hV.c3
  go_wp2_with fail
  refine (hc3.out _).mono ?_
  rintro e w3 ⟨rfl, q3⟩
  clear a0 a1 y0 y1 y2 y3
  have g3 := (Gr.refl w3).alloc (.cells #[.int .i32 u3, .int .i32 v3] 23)
  replace hF := (hF.gr q3).gr g3
  replace hV := (hV.gr q3).gr g3
  replace hG := (hG.trans q3).trans g3
  replace k0 := (k0.gr q3).gr g3
  replace k1 := (k1.gr q3).gr g3
  replace k2 := (k2.gr q3).gr g3
  have k3 : TwoIs (w3.alloc (.cells #[.int .i32 u3, .int .i32 v3] 23)) w3.heap.size u3 v3 := TwoIs.new w3 u3 v3
  clear q3 g3 hc3
  have b0 := hF.c0
  have b1 := hF.c1
  have b2 := hF.c2
  have b3 := hF.c3
  have b4 := hF.c4
  have b5 := hF.c5
  have b6 := hF.c6
  have b7 := hF.c7
  cases B0 with
  | false =>
    go_wp2_with (first | (go_at_call 18; refine (rin_c _ _ _).mono ?_; rintro e w' ⟨rfl, q⟩; replace hF := hF.gr q; replace hG := hG.trans q; replace b0 := hF.c0; replace b1 := hF.c1; replace b2 := hF.c2; replace b3 := hF.c3; replace b4 := hF.c4; replace b5 := hF.c5; replace b6 := hF.c6; replace b7 := hF.c7; clear q) | (go_at_call 10; refine (lives_any _).mono ?_; rintro e w' ⟨rfl, q⟩; replace hG := hG.trans q; clear q))
    go_ret
    exact ⟨rfl, hG⟩
  | true =>
    cases B1 with
    | false =>
      go_wp2_with (first | (go_at_call 18; refine (rin_c _ _ _).mono ?_; rintro e w' ⟨rfl, q⟩; replace hF := hF.gr q; replace hG := hG.trans q; replace b0 := hF.c0; replace b1 := hF.c1; replace b2 := hF.c2; replace b3 := hF.c3; replace b4 := hF.c4; replace b5 := hF.c5; replace b6 := hF.c6; replace b7 := hF.c7; clear q) | (go_at_call 10; refine (lives_any _).mono ?_; rintro e w' ⟨rfl, q⟩; replace hG := hG.trans q; clear q))
      go_ret
      exact ⟨rfl, hG⟩
    | true =>
      cases B2 with
      | false =>
        go_wp2_with (first | (go_at_call 18; refine (rin_c _ _ _).mono ?_; rintro e w' ⟨rfl, q⟩; replace hF := hF.gr q; replace hG := hG.trans q; replace b0 := hF.c0; replace b1 := hF.c1; replace b2 := hF.c2; replace b3 := hF.c3; replace b4 := hF.c4; replace b5 := hF.c5; replace b6 := hF.c6; replace b7 := hF.c7; clear q) | (go_at_call 10; refine (lives_any _).mono ?_; rintro e w' ⟨rfl, q⟩; replace hG := hG.trans q; clear q))
        go_ret
        exact ⟨rfl, hG⟩
      | true =>
        cases B3 with
        | false =>
          go_wp2_with (first | (go_at_call 18; refine (rin_c _ _ _).mono ?_; rintro e w' ⟨rfl, q⟩; replace hF := hF.gr q; replace hG := hG.trans q; replace b0 := hF.c0; replace b1 := hF.c1; replace b2 := hF.c2; replace b3 := hF.c3; replace b4 := hF.c4; replace b5 := hF.c5; replace b6 := hF.c6; replace b7 := hF.c7; clear q) | (go_at_call 10; refine (lives_any _).mono ?_; rintro e w' ⟨rfl, q⟩; replace hG := hG.trans q; clear q))
          go_ret
          exact ⟨rfl, hG⟩
        | true =>
          cases e4 : latP (ax, ay) with
          | false =>
            go_wp2_with (first | (go_at_call 18; refine (rin_c _ _ _).mono ?_; rintro e w' ⟨rfl, q⟩; replace hF := hF.gr q; replace hG := hG.trans q; replace b0 := hF.c0; replace b1 := hF.c1; replace b2 := hF.c2; replace b3 := hF.c3; replace b4 := hF.c4; replace b5 := hF.c5; replace b6 := hF.c6; replace b7 := hF.c7; clear q) | (go_at_call 10; refine (lives_any _).mono ?_; rintro e w' ⟨rfl, q⟩; replace hG := hG.trans q; clear q))
            go_ret
            exact ⟨rfl, hG⟩
          | true =>
            cases e5 : latP (bx, by_) with
            | false =>
              go_wp2_with (first | (go_at_call 18; refine (rin_c _ _ _).mono ?_; rintro e w' ⟨rfl, q⟩; replace hF := hF.gr q; replace hG := hG.trans q; replace b0 := hF.c0; replace b1 := hF.c1; replace b2 := hF.c2; replace b3 := hF.c3; replace b4 := hF.c4; replace b5 := hF.c5; replace b6 := hF.c6; replace b7 := hF.c7; clear q) | (go_at_call 10; refine (lives_any _).mono ?_; rintro e w' ⟨rfl, q⟩; replace hG := hG.trans q; clear q))
              go_ret
              exact ⟨rfl, hG⟩
            | true =>
              cases e6 : latP (cx, cy) with
              | false =>
                go_wp2_with (first | (go_at_call 18; refine (rin_c _ _ _).mono ?_; rintro e w' ⟨rfl, q⟩; replace hF := hF.gr q; replace hG := hG.trans q; replace b0 := hF.c0; replace b1 := hF.c1; replace b2 := hF.c2; replace b3 := hF.c3; replace b4 := hF.c4; replace b5 := hF.c5; replace b6 := hF.c6; replace b7 := hF.c7; clear q) | (go_at_call 10; refine (lives_any _).mono ?_; rintro e w' ⟨rfl, q⟩; replace hG := hG.trans q; clear q))
                go_ret
                exact ⟨rfl, hG⟩
              | true =>
                cases e7 : latP (dx, dy) with
                | false =>
                  go_wp2_with (first | (go_at_call 18; refine (rin_c _ _ _).mono ?_; rintro e w' ⟨rfl, q⟩; replace hF := hF.gr q; replace hG := hG.trans q; replace b0 := hF.c0; replace b1 := hF.c1; replace b2 := hF.c2; replace b3 := hF.c3; replace b4 := hF.c4; replace b5 := hF.c5; replace b6 := hF.c6; replace b7 := hF.c7; clear q) | (go_at_call 10; refine (lives_any _).mono ?_; rintro e w' ⟨rfl, q⟩; replace hG := hG.trans q; clear q))
                  go_ret
                  exact ⟨rfl, hG⟩
                | true =>
                  obtain ⟨z0, l0⟩ := hm0.out (by simp)
                  have t0 := (latP_iff _).mp e4
                  obtain ⟨z1, l1⟩ := hm1.out (by simp)
                  have t1 := (latP_iff _).mp e5
                  obtain ⟨z2, l2⟩ := hm2.out (by simp)
                  have t2 := (latP_iff _).mp e6
                  obtain ⟨z3, l3⟩ := hm3.out (by simp)
                  have t3 := (latP_iff _).mp e7
                  obtain ⟨sg, iso⟩ := Iso.mov m k ex ey
                  have E1 : meetA (u0, v0) (u1, v1) (u2, v2) (u3, v3) = meetA (ax, ay) (bx, by_) (cx, cy) (dx, dy) := by rw [z0, z1, z2, z3]; rw [z0] at l0; rw [z1] at l1; rw [z2] at l2; rw [z3] at l3; exact iso.meetA t0 t1 t2 t3 l0 l1 l2 l3
                  have E2 : footA (u0, v0) (u2, v2) (u3, v3) = footA (ax, ay) (cx, cy) (dx, dy) := by rw [z0, z2, z3]; rw [z0] at l0; rw [z2] at l2; rw [z3] at l3; exact iso.footA t0 t2 t3 l0 l2 l3
                  have E3 : nearA (u0, v0) (u2, v2) (u3, v3) r = nearA (ax, ay) (cx, cy) (dx, dy) r := by rw [z0, z2, z3]; rw [z0] at l0; rw [z2] at l2; rw [z3] at l3; exact iso.nearA r t0 t2 t3 l0 l2 l3
                  have E4 : nearS (u0, v0) (u1, v1) (u2, v2) (u3, v3) r = nearS (ax, ay) (bx, by_) (cx, cy) (dx, dy) r := by rw [z0, z1, z2, z3]; rw [z0] at l0; rw [z1] at l1; rw [z2] at l2; rw [z3] at l3; exact iso.nearS r t0 t1 t2 t3 l0 l1 l2 l3
                  have MM := Meet_c u0 v0 u1 v1 u2 v2 u3 v3
                  have MO := Meet_c ax ay bx by_ cx cy dx dy
                  rw [E1] at MM
                  have FM := Foot_c u0 v0 u2 v2 u3 v3
                  have FO := Foot_c ax ay cx cy dx dy
                  rw [E2] at FM
                  have NM := Near_c u0 v0 u2 v2 u3 v3 r
                  have NO := Near_c ax ay cx cy dx dy r
                  rw [E3] at NM
                  have SM := NearSeg_c u0 v0 u1 v1 u2 v2 u3 v3 r
                  have SO := NearSeg_c ax ay bx by_ cx cy dx dy r
                  rw [E4] at SM
                  clear z0 l0 t0 hm0
                  clear z1 l1 t1 hm1
                  clear z2 l2 t2 hm2
                  clear z3 l3 t3 hm3
                  clear iso E1 E2 E3 E4
                  replace MM := hid' MM
                  replace MO := hid' MO
                  replace FM := hid' FM
                  replace FO := hid' FO
                  replace NM := hid' NM
                  replace NO := hid' NO
                  replace SM := hid' SM
                  replace SO := hid' SO
                  generalize meetA (ax, ay) (bx, by_) (cx, cy) (dx, dy) = mm at *
                  generalize footA (ax, ay) (cx, cy) (dx, dy) = ff at *
                  generalize nearA (ax, ay) (cx, cy) (dx, dy) r = nn at *
                  generalize nearS (ax, ay) (bx, by_) (cx, cy) (dx, dy) r = ss at *
                  obtain ⟨mk, mi, ⟨f1, f2⟩, ⟨g1, g2⟩⟩ := mm
                  obtain ⟨ff1, ff2⟩ := ff
                  have cells : True := trivial
                  have c0 := k0.c0
                  have c1 := k0.c1
                  have c2 := k1.c0
                  have c3 := k1.c1
                  have c4 := k2.c0
                  have c5 := k2.c1
                  have c6 := k3.c0
                  have c7 := k3.c1
                  go_wp2_with (go_at_call 18; refine (rin_c _ _ _).mono ?_; rintro e w' ⟨rfl, q⟩; replace hF := hF.gr q; replace hG := hG.trans q; replace b0 := hF.c0; replace b1 := hF.c1; replace b2 := hF.c2; replace b3 := hF.c3; replace b4 := hF.c4; replace b5 := hF.c5; replace b6 := hF.c6; replace b7 := hF.c7; replace k0 := k0.gr q; replace k1 := k1.gr q; replace k2 := k2.gr q; replace k3 := k3.gr q; clear q c0 c1 c2 c3 c4 c5 c6 c7; have c0 := k0.c0; have c1 := k0.c1; have c2 := k1.c0; have c3 := k1.c1; have c4 := k2.c0; have c5 := k2.c1; have c6 := k3.c0; have c7 := k3.c1)
                  have x0 := cell_gr c0
                  have x1 := cell_gr c1
                  have x2 := cell_gr c2
                  have x3 := cell_gr c3
                  have x4 := cell_gr c4
                  have x5 := cell_gr c5
                  have x6 := cell_gr c6
                  have x7 := cell_gr c7
                  have y0 := cell_gr b0
                  have y1 := cell_gr b1
                  have y2 := cell_gr b2
                  have y3 := cell_gr b3
                  have y4 := cell_gr b4
                  have y5 := cell_gr b5
                  have y6 := cell_gr b6
                  have y7 := cell_gr b7
                  clear c0 c1 c2 c3 c4 c5 c6 c7 b0 b1 b2 b3 b4 b5 b6 b7 k0 k1 k2 k3 hF hV
                  have e30 : (mk == mk) = true := by simp
                  have e31 : (mi == mi) = true := by simp
                  have e32 : (f1 == f1) = true := by simp
                  have e33 : (f2 == f2) = true := by simp
                  have e34 : (g1 == g1) = true := by simp
                  have e35 : (g2 == g2) = true := by simp
                  have e36 : (ff1 == ff1) = true := by simp
                  have e37 : (ff2 == ff2) = true := by simp
                  have e38 : (nn == nn) = true := by simp
                  have e39 : (ss == ss) = true := by simp
                  refine wp_region_quiet_grown (by kernel_rfl) (by kernel_rfl) ?_
                  dsimp only [List.append]
                  repeat (go_big_quiet_step (first | (go_at_call_of 8 (Value.int IntKind.i32 ax); exact Calls.grown_of (MO.out _)) | (go_at_call 8; exact Calls.grown_of (MM.out _)) | (go_at_call_of 11 (Value.int IntKind.i32 ax); exact Calls.grown_of (FO.out _)) | (go_at_call 11; exact Calls.grown_of (FM.out _)) | (go_at_call_of 13 (Value.int IntKind.i32 ax); exact Calls.grown_of (NO.out _)) | (go_at_call 13; exact Calls.grown_of (NM.out _)) | (go_at_call_of 15 (Value.int IntKind.i32 ax); exact Calls.grown_of (SO.out _)) | (go_at_call 15; exact Calls.grown_of (SM.out _)) | (go_at_call 10; exact Calls.grown_of (lives_any _))))
                  refine wpQuiet_nil ?_
                  intro _ hw'
                  obtain ⟨⟨nq, osq⟩, hw''⟩ := hw'
                  subst hw''
                  have g := hG.trans ⟨nq, osq, rfl⟩
                  go_wp2
                  go_ret
                  exact ⟨rfl, g⟩
end Go.Proofs.Ytagabccaipfjeaa
