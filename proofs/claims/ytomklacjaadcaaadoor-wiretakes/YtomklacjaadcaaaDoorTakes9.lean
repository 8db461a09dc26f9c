/- Contracts of the takes of numbers of all widths. -/
import Derived.Test.YtomklacjaadcaaaDoorIn1
namespace Go.Proofs.YtomklacjaadcaaaDoor
open Go.RowKit Go.Sort

set_option maxRecDepth 20000 in
set_option maxHeartbeats 3200000 in
theorem take33_ok (i b off cap at' : Nat) (l : List UInt8) (h1 : at' + 2 ≤ l.length) (h2 : l.length ≤ cap) (h3 : l.length ≤ 140737488351232) (w : World) (hR : Row w i 51 (inL (.slice (some ⟨b, off, none⟩) l.length cap) at' 0)) (hb : By w (some ⟨b, off, none⟩) l) (hne : b ≠ i) :
    Calls Tryd.prog 33 #[.pointer (some ⟨i, 0, none⟩)] w fun e w' => e = .returned (.int .u16 (IntKind.u16.wrap (num ((l.drop at').take 2) : Nat))) ∧ Row w' i 51 (inL (.slice (some ⟨b, off, none⟩) l.length cap) (at' + 2) 0) ∧ w.grownBy w' (some i) := by
  have HA := hid' (ahead_ok i b off l.length cap at' 2 (by decide) h1 h2 h3 w hR)
  have HR := hid' hR
  have hx := num_lt ((l.drop at').take 2)
  have h4 : ((l.drop at').take 2).length = 2 := by simp; omega
  rw [h4] at hx
  have HB := hid' (hb.piece at' 2)
  clear hb hR
  go_enter Tryd.func33, Tryd.ntmps33
  go_upto_region 4 with (first
    | (go_at_call 75; refine (width75 _).mono ?_; rintro e w1 ⟨rfl, rfl⟩)
    | (go_at_call 76; refine HA.out.mono ?_; rintro e w2 ⟨rfl, g2⟩))
  have R2 := HR.out.below g2.below HR.out.lt
  have c1 : w2.cell? ⟨i, 1, none⟩ = some (.int .i64 (at' : Nat)) := R2.cell 1
  have f1 := R2.frozen 1
  have R3 : Hid (Row (w2.setCell ⟨i, 1, none⟩ (.int .i64 ((at' : Nat) + 2))) i 51 (inL (.slice (some ⟨b, off, none⟩) l.length cap) (at' + 2) 0)) := R2.set 1 _
  have G3 : Hid (w1.grownBy (w2.setCell ⟨i, 1, none⟩ (.int .i64 ((at' : Nat) + 2))) (some i)) := grown_trans (below_grown g2.below _) (setCells_grown [_] 1 w2)
  have HN := hid' (number_at (cap := cap - at') h4 (by decide) ((HB.out.grown G3.out (by intro a e; cases e; simpa using hne))))
  generalize hX : num ((l.drop at').take 2) = X at *
  have HX := hid' hX
  clear hX
  have hwr : IntKind.u16.wrap (X : Int) = IntKind.u16.wrap (X : Int) := rfl
  clear HB HR R2 g2 HA hwr
  go_wp2_with (go_at_call 70; refine HN.out.mono ?_; rintro e w4 ⟨rfl, rfl⟩)
  go_ret
  refine ⟨?_, R3.out, G3.out⟩
  rw [HX.out]
  rw [show IntKind.u16.wrap (X : Int) = X from by rw [IntKind.wrap_u16]; omega]
  rfl
set_option maxRecDepth 20000 in
set_option maxHeartbeats 3200000 in
theorem take33_none (p : Value) (w : World) (Q : World → Prop) (HA : Hid (Calls Tryd.prog 76 #[p, .int .i64 2] w fun e w' => e = .returned (.tuple #[.slice none 0 0, .bool false]) ∧ Q w')) :
    Calls Tryd.prog 33 #[p] w fun e w' => e = .returned (.int .u16 0) ∧ Q w' := by
  go_enter Tryd.func33, Tryd.ntmps33
  go_wp2_with (first
    | (go_at_call 75; refine (width75 _).mono ?_; rintro e w1 ⟨rfl, rfl⟩)
    | (go_at_call 76; refine HA.out.mono ?_; rintro e w2 ⟨rfl, q2⟩))
  go_ret
  exact ⟨rfl, q2⟩
theorem take33_nil (w : World) : Calls Tryd.prog 33 #[.pointer none] w fun e w' => e = .returned (.int .u16 0) ∧ w' = w :=
  take33_none _ w (fun w' => w' = w) (ahead_nil 2 w)
theorem take33_any (i at' f : Nat) (l : List UInt8) (w : World) (h : InIs w i l at' f) :
    Calls Tryd.prog 33 #[.pointer (some ⟨i, 0, none⟩)] w fun e w' => e = .returned (.int .u16 (IntKind.u16.wrap (fixV l 2 at' f : Nat))) ∧ InIs w' i l (fixA l 2 at' f) (fixF l 2 at' f) ∧ w.grownBy w' (some i) := by
  obtain ⟨ao, cap, h1, h2, h3, h4, h5, h6⟩ := h
  by_cases hf : f = 0
  · subst hf
    by_cases he : at' + 2 ≤ l.length
    · obtain ⟨e1, e2, e3⟩ := fix_yes he
      obtain ⟨b, off, rfl, _⟩ := h2 0 (by omega)
      rw [e1, e2, e3]
      refine (take33_ok i b off cap at' l he h3 h6 w h1 h2 (h4 _ rfl)).mono ?_
      rintro e w' ⟨rfl, r, g⟩
      exact ⟨rfl, ⟨_, cap, r, h2.grown g (by intro a e; cases e; simpa using h4 _ rfl), h3, h4, he, h6⟩, g⟩
    · obtain ⟨e1, e2, e3⟩ := fix_ends he
      rw [e1, e2, e3]
      refine (take33_none _ w (fun w' => Row w' i 51 (inL (.slice ao l.length cap) at' 30) ∧ w.grownBy w' (some i)) (ahead_ends i l.length cap at' 2 ao he h5 h6 w h1)).mono ?_
      rintro e w' ⟨rfl, r, g⟩
      exact ⟨rfl, ⟨ao, cap, r, h2.grown g (fun a e => by simpa using h4 a e), h3, h4, h5, h6⟩, g⟩
  · obtain ⟨e1, e2, e3⟩ := fix_no (l := l) (n := 2) (at' := at') hf
    rw [e1, e2, e3]
    refine (take33_none _ w (fun w' => w' = w) (ahead_wrong i 2 f at' hf _ w h1)).mono ?_
    rintro e w' ⟨rfl, rfl⟩
    exact ⟨rfl, ⟨ao, cap, h1, h2, h3, h4, h5, h6⟩, World.grownBy.refl _ _⟩
set_option maxRecDepth 20000 in
set_option maxHeartbeats 3200000 in
theorem take51_ok (i b off cap at' : Nat) (l : List UInt8) (h1 : at' + 1 ≤ l.length) (h2 : l.length ≤ cap) (h3 : l.length ≤ 140737488351232) (w : World) (hR : Row w i 51 (inL (.slice (some ⟨b, off, none⟩) l.length cap) at' 0)) (hb : By w (some ⟨b, off, none⟩) l) (hne : b ≠ i) :
    Calls Tryd.prog 51 #[.pointer (some ⟨i, 0, none⟩)] w fun e w' => e = .returned (.int .i8 (IntKind.i8.wrap (num ((l.drop at').take 1) : Nat))) ∧ Row w' i 51 (inL (.slice (some ⟨b, off, none⟩) l.length cap) (at' + 1) 0) ∧ w.grownBy w' (some i) := by
  have HA := hid' (ahead_ok i b off l.length cap at' 1 (by decide) h1 h2 h3 w hR)
  have HR := hid' hR
  have hx := num_lt ((l.drop at').take 1)
  have h4 : ((l.drop at').take 1).length = 1 := by simp; omega
  rw [h4] at hx
  have HB := hid' (hb.piece at' 1)
  clear hb hR
  go_enter Tryd.func51, Tryd.ntmps51
  go_upto_region 4 with (first
    | (go_at_call 77; refine (width77 _).mono ?_; rintro e w1 ⟨rfl, rfl⟩)
    | (go_at_call 76; refine HA.out.mono ?_; rintro e w2 ⟨rfl, g2⟩))
  have R2 := HR.out.below g2.below HR.out.lt
  have c1 : w2.cell? ⟨i, 1, none⟩ = some (.int .i64 (at' : Nat)) := R2.cell 1
  have f1 := R2.frozen 1
  have R3 : Hid (Row (w2.setCell ⟨i, 1, none⟩ (.int .i64 ((at' : Nat) + 1))) i 51 (inL (.slice (some ⟨b, off, none⟩) l.length cap) (at' + 1) 0)) := R2.set 1 _
  have G3 : Hid (w1.grownBy (w2.setCell ⟨i, 1, none⟩ (.int .i64 ((at' : Nat) + 1))) (some i)) := grown_trans (below_grown g2.below _) (setCells_grown [_] 1 w2)
  have HN := hid' (number_at (cap := cap - at') h4 (by decide) ((HB.out.grown G3.out (by intro a e; cases e; simpa using hne))))
  generalize hX : num ((l.drop at').take 1) = X at *
  have HX := hid' hX
  clear hX
  have hwr : IntKind.i8.wrap (X : Int) = IntKind.i8.wrap (X : Int) := rfl
  clear HB HR R2 g2 HA hwr
  go_wp2_with (go_at_call 70; refine HN.out.mono ?_; rintro e w4 ⟨rfl, rfl⟩)
  go_ret
  refine ⟨?_, R3.out, G3.out⟩
  rw [HX.out]
  rfl
set_option maxRecDepth 20000 in
set_option maxHeartbeats 3200000 in
theorem take51_none (p : Value) (w : World) (Q : World → Prop) (HA : Hid (Calls Tryd.prog 76 #[p, .int .i64 1] w fun e w' => e = .returned (.tuple #[.slice none 0 0, .bool false]) ∧ Q w')) :
    Calls Tryd.prog 51 #[p] w fun e w' => e = .returned (.int .i8 0) ∧ Q w' := by
  go_enter Tryd.func51, Tryd.ntmps51
  go_wp2_with (first
    | (go_at_call 77; refine (width77 _).mono ?_; rintro e w1 ⟨rfl, rfl⟩)
    | (go_at_call 76; refine HA.out.mono ?_; rintro e w2 ⟨rfl, q2⟩))
  go_ret
  exact ⟨rfl, q2⟩
theorem take51_nil (w : World) : Calls Tryd.prog 51 #[.pointer none] w fun e w' => e = .returned (.int .i8 0) ∧ w' = w :=
  take51_none _ w (fun w' => w' = w) (ahead_nil 1 w)
theorem take51_any (i at' f : Nat) (l : List UInt8) (w : World) (h : InIs w i l at' f) :
    Calls Tryd.prog 51 #[.pointer (some ⟨i, 0, none⟩)] w fun e w' => e = .returned (.int .i8 (IntKind.i8.wrap (fixV l 1 at' f : Nat))) ∧ InIs w' i l (fixA l 1 at' f) (fixF l 1 at' f) ∧ w.grownBy w' (some i) := by
  obtain ⟨ao, cap, h1, h2, h3, h4, h5, h6⟩ := h
  by_cases hf : f = 0
  · subst hf
    by_cases he : at' + 1 ≤ l.length
    · obtain ⟨e1, e2, e3⟩ := fix_yes he
      obtain ⟨b, off, rfl, _⟩ := h2 0 (by omega)
      rw [e1, e2, e3]
      refine (take51_ok i b off cap at' l he h3 h6 w h1 h2 (h4 _ rfl)).mono ?_
      rintro e w' ⟨rfl, r, g⟩
      exact ⟨rfl, ⟨_, cap, r, h2.grown g (by intro a e; cases e; simpa using h4 _ rfl), h3, h4, he, h6⟩, g⟩
    · obtain ⟨e1, e2, e3⟩ := fix_ends he
      rw [e1, e2, e3]
      refine (take51_none _ w (fun w' => Row w' i 51 (inL (.slice ao l.length cap) at' 30) ∧ w.grownBy w' (some i)) (ahead_ends i l.length cap at' 1 ao he h5 h6 w h1)).mono ?_
      rintro e w' ⟨rfl, r, g⟩
      exact ⟨rfl, ⟨ao, cap, r, h2.grown g (fun a e => by simpa using h4 a e), h3, h4, h5, h6⟩, g⟩
  · obtain ⟨e1, e2, e3⟩ := fix_no (l := l) (n := 1) (at' := at') hf
    rw [e1, e2, e3]
    refine (take51_none _ w (fun w' => w' = w) (ahead_wrong i 1 f at' hf _ w h1)).mono ?_
    rintro e w' ⟨rfl, rfl⟩
    exact ⟨rfl, ⟨ao, cap, h1, h2, h3, h4, h5, h6⟩, World.grownBy.refl _ _⟩
set_option maxRecDepth 20000 in
set_option maxHeartbeats 3200000 in
theorem take52_ok (i b off cap at' : Nat) (l : List UInt8) (h1 : at' + 1 ≤ l.length) (h2 : l.length ≤ cap) (h3 : l.length ≤ 140737488351232) (w : World) (hR : Row w i 51 (inL (.slice (some ⟨b, off, none⟩) l.length cap) at' 0)) (hb : By w (some ⟨b, off, none⟩) l) (hne : b ≠ i) :
    Calls Tryd.prog 52 #[.pointer (some ⟨i, 0, none⟩)] w fun e w' => e = .returned (.int .u8 (IntKind.u8.wrap (num ((l.drop at').take 1) : Nat))) ∧ Row w' i 51 (inL (.slice (some ⟨b, off, none⟩) l.length cap) (at' + 1) 0) ∧ w.grownBy w' (some i) := by
  have HA := hid' (ahead_ok i b off l.length cap at' 1 (by decide) h1 h2 h3 w hR)
  have HR := hid' hR
  have hx := num_lt ((l.drop at').take 1)
  have h4 : ((l.drop at').take 1).length = 1 := by simp; omega
  rw [h4] at hx
  have HB := hid' (hb.piece at' 1)
  clear hb hR
  go_enter Tryd.func52, Tryd.ntmps52
  go_upto_region 4 with (first
    | (go_at_call 78; refine (width78 _).mono ?_; rintro e w1 ⟨rfl, rfl⟩)
    | (go_at_call 76; refine HA.out.mono ?_; rintro e w2 ⟨rfl, g2⟩))
  have R2 := HR.out.below g2.below HR.out.lt
  have c1 : w2.cell? ⟨i, 1, none⟩ = some (.int .i64 (at' : Nat)) := R2.cell 1
  have f1 := R2.frozen 1
  have R3 : Hid (Row (w2.setCell ⟨i, 1, none⟩ (.int .i64 ((at' : Nat) + 1))) i 51 (inL (.slice (some ⟨b, off, none⟩) l.length cap) (at' + 1) 0)) := R2.set 1 _
  have G3 : Hid (w1.grownBy (w2.setCell ⟨i, 1, none⟩ (.int .i64 ((at' : Nat) + 1))) (some i)) := grown_trans (below_grown g2.below _) (setCells_grown [_] 1 w2)
  have HN := hid' (number_at (cap := cap - at') h4 (by decide) ((HB.out.grown G3.out (by intro a e; cases e; simpa using hne))))
  generalize hX : num ((l.drop at').take 1) = X at *
  have HX := hid' hX
  clear hX
  have hwr : IntKind.u8.wrap (X : Int) = IntKind.u8.wrap (X : Int) := rfl
  clear HB HR R2 g2 HA hwr
  go_wp2_with (go_at_call 70; refine HN.out.mono ?_; rintro e w4 ⟨rfl, rfl⟩)
  go_ret
  refine ⟨?_, R3.out, G3.out⟩
  rw [HX.out]
  rw [show IntKind.u8.wrap (X : Int) = X from by rw [IntKind.wrap_u8']; omega]
  rfl
set_option maxRecDepth 20000 in
set_option maxHeartbeats 3200000 in
theorem take52_none (p : Value) (w : World) (Q : World → Prop) (HA : Hid (Calls Tryd.prog 76 #[p, .int .i64 1] w fun e w' => e = .returned (.tuple #[.slice none 0 0, .bool false]) ∧ Q w')) :
    Calls Tryd.prog 52 #[p] w fun e w' => e = .returned (.int .u8 0) ∧ Q w' := by
  go_enter Tryd.func52, Tryd.ntmps52
  go_wp2_with (first
    | (go_at_call 78; refine (width78 _).mono ?_; rintro e w1 ⟨rfl, rfl⟩)
    | (go_at_call 76; refine HA.out.mono ?_; rintro e w2 ⟨rfl, q2⟩))
  go_ret
  exact ⟨rfl, q2⟩
theorem take52_nil (w : World) : Calls Tryd.prog 52 #[.pointer none] w fun e w' => e = .returned (.int .u8 0) ∧ w' = w :=
  take52_none _ w (fun w' => w' = w) (ahead_nil 1 w)
theorem take52_any (i at' f : Nat) (l : List UInt8) (w : World) (h : InIs w i l at' f) :
    Calls Tryd.prog 52 #[.pointer (some ⟨i, 0, none⟩)] w fun e w' => e = .returned (.int .u8 (IntKind.u8.wrap (fixV l 1 at' f : Nat))) ∧ InIs w' i l (fixA l 1 at' f) (fixF l 1 at' f) ∧ w.grownBy w' (some i) := by
  obtain ⟨ao, cap, h1, h2, h3, h4, h5, h6⟩ := h
  by_cases hf : f = 0
  · subst hf
    by_cases he : at' + 1 ≤ l.length
    · obtain ⟨e1, e2, e3⟩ := fix_yes he
      obtain ⟨b, off, rfl, _⟩ := h2 0 (by omega)
      rw [e1, e2, e3]
      refine (take52_ok i b off cap at' l he h3 h6 w h1 h2 (h4 _ rfl)).mono ?_
      rintro e w' ⟨rfl, r, g⟩
      exact ⟨rfl, ⟨_, cap, r, h2.grown g (by intro a e; cases e; simpa using h4 _ rfl), h3, h4, he, h6⟩, g⟩
    · obtain ⟨e1, e2, e3⟩ := fix_ends he
      rw [e1, e2, e3]
      refine (take52_none _ w (fun w' => Row w' i 51 (inL (.slice ao l.length cap) at' 30) ∧ w.grownBy w' (some i)) (ahead_ends i l.length cap at' 1 ao he h5 h6 w h1)).mono ?_
      rintro e w' ⟨rfl, r, g⟩
      exact ⟨rfl, ⟨ao, cap, r, h2.grown g (fun a e => by simpa using h4 a e), h3, h4, h5, h6⟩, g⟩
  · obtain ⟨e1, e2, e3⟩ := fix_no (l := l) (n := 1) (at' := at') hf
    rw [e1, e2, e3]
    refine (take52_none _ w (fun w' => w' = w) (ahead_wrong i 1 f at' hf _ w h1)).mono ?_
    rintro e w' ⟨rfl, rfl⟩
    exact ⟨rfl, ⟨ao, cap, h1, h2, h3, h4, h5, h6⟩, World.grownBy.refl _ _⟩
set_option maxRecDepth 20000 in
set_option maxHeartbeats 3200000 in
theorem take53_ok (i b off cap at' : Nat) (l : List UInt8) (h1 : at' + 2 ≤ l.length) (h2 : l.length ≤ cap) (h3 : l.length ≤ 140737488351232) (w : World) (hR : Row w i 51 (inL (.slice (some ⟨b, off, none⟩) l.length cap) at' 0)) (hb : By w (some ⟨b, off, none⟩) l) (hne : b ≠ i) :
    Calls Tryd.prog 53 #[.pointer (some ⟨i, 0, none⟩)] w fun e w' => e = .returned (.int .i16 (IntKind.i16.wrap (num ((l.drop at').take 2) : Nat))) ∧ Row w' i 51 (inL (.slice (some ⟨b, off, none⟩) l.length cap) (at' + 2) 0) ∧ w.grownBy w' (some i) := by
  have HA := hid' (ahead_ok i b off l.length cap at' 2 (by decide) h1 h2 h3 w hR)
  have HR := hid' hR
  have hx := num_lt ((l.drop at').take 2)
  have h4 : ((l.drop at').take 2).length = 2 := by simp; omega
  rw [h4] at hx
  have HB := hid' (hb.piece at' 2)
  clear hb hR
  go_enter Tryd.func53, Tryd.ntmps53
  go_upto_region 4 with (first
    | (go_at_call 79; refine (width79 _).mono ?_; rintro e w1 ⟨rfl, rfl⟩)
    | (go_at_call 76; refine HA.out.mono ?_; rintro e w2 ⟨rfl, g2⟩))
  have R2 := HR.out.below g2.below HR.out.lt
  have c1 : w2.cell? ⟨i, 1, none⟩ = some (.int .i64 (at' : Nat)) := R2.cell 1
  have f1 := R2.frozen 1
  have R3 : Hid (Row (w2.setCell ⟨i, 1, none⟩ (.int .i64 ((at' : Nat) + 2))) i 51 (inL (.slice (some ⟨b, off, none⟩) l.length cap) (at' + 2) 0)) := R2.set 1 _
  have G3 : Hid (w1.grownBy (w2.setCell ⟨i, 1, none⟩ (.int .i64 ((at' : Nat) + 2))) (some i)) := grown_trans (below_grown g2.below _) (setCells_grown [_] 1 w2)
  have HN := hid' (number_at (cap := cap - at') h4 (by decide) ((HB.out.grown G3.out (by intro a e; cases e; simpa using hne))))
  generalize hX : num ((l.drop at').take 2) = X at *
  have HX := hid' hX
  clear hX
  have hwr : IntKind.i16.wrap (X : Int) = IntKind.i16.wrap (X : Int) := rfl
  clear HB HR R2 g2 HA hwr
  go_wp2_with (go_at_call 70; refine HN.out.mono ?_; rintro e w4 ⟨rfl, rfl⟩)
  go_ret
  refine ⟨?_, R3.out, G3.out⟩
  rw [HX.out]
  rfl
set_option maxRecDepth 20000 in
set_option maxHeartbeats 3200000 in
theorem take53_none (p : Value) (w : World) (Q : World → Prop) (HA : Hid (Calls Tryd.prog 76 #[p, .int .i64 2] w fun e w' => e = .returned (.tuple #[.slice none 0 0, .bool false]) ∧ Q w')) :
    Calls Tryd.prog 53 #[p] w fun e w' => e = .returned (.int .i16 0) ∧ Q w' := by
  go_enter Tryd.func53, Tryd.ntmps53
  go_wp2_with (first
    | (go_at_call 79; refine (width79 _).mono ?_; rintro e w1 ⟨rfl, rfl⟩)
    | (go_at_call 76; refine HA.out.mono ?_; rintro e w2 ⟨rfl, q2⟩))
  go_ret
  exact ⟨rfl, q2⟩
theorem take53_nil (w : World) : Calls Tryd.prog 53 #[.pointer none] w fun e w' => e = .returned (.int .i16 0) ∧ w' = w :=
  take53_none _ w (fun w' => w' = w) (ahead_nil 2 w)
theorem take53_any (i at' f : Nat) (l : List UInt8) (w : World) (h : InIs w i l at' f) :
    Calls Tryd.prog 53 #[.pointer (some ⟨i, 0, none⟩)] w fun e w' => e = .returned (.int .i16 (IntKind.i16.wrap (fixV l 2 at' f : Nat))) ∧ InIs w' i l (fixA l 2 at' f) (fixF l 2 at' f) ∧ w.grownBy w' (some i) := by
  obtain ⟨ao, cap, h1, h2, h3, h4, h5, h6⟩ := h
  by_cases hf : f = 0
  · subst hf
    by_cases he : at' + 2 ≤ l.length
    · obtain ⟨e1, e2, e3⟩ := fix_yes he
      obtain ⟨b, off, rfl, _⟩ := h2 0 (by omega)
      rw [e1, e2, e3]
      refine (take53_ok i b off cap at' l he h3 h6 w h1 h2 (h4 _ rfl)).mono ?_
      rintro e w' ⟨rfl, r, g⟩
      exact ⟨rfl, ⟨_, cap, r, h2.grown g (by intro a e; cases e; simpa using h4 _ rfl), h3, h4, he, h6⟩, g⟩
    · obtain ⟨e1, e2, e3⟩ := fix_ends he
      rw [e1, e2, e3]
      refine (take53_none _ w (fun w' => Row w' i 51 (inL (.slice ao l.length cap) at' 30) ∧ w.grownBy w' (some i)) (ahead_ends i l.length cap at' 2 ao he h5 h6 w h1)).mono ?_
      rintro e w' ⟨rfl, r, g⟩
      exact ⟨rfl, ⟨ao, cap, r, h2.grown g (fun a e => by simpa using h4 a e), h3, h4, h5, h6⟩, g⟩
  · obtain ⟨e1, e2, e3⟩ := fix_no (l := l) (n := 2) (at' := at') hf
    rw [e1, e2, e3]
    refine (take53_none _ w (fun w' => w' = w) (ahead_wrong i 2 f at' hf _ w h1)).mono ?_
    rintro e w' ⟨rfl, rfl⟩
    exact ⟨rfl, ⟨ao, cap, h1, h2, h3, h4, h5, h6⟩, World.grownBy.refl _ _⟩
set_option maxRecDepth 20000 in
set_option maxHeartbeats 3200000 in
theorem take54_ok (i b off cap at' : Nat) (l : List UInt8) (h1 : at' + 4 ≤ l.length) (h2 : l.length ≤ cap) (h3 : l.length ≤ 140737488351232) (w : World) (hR : Row w i 51 (inL (.slice (some ⟨b, off, none⟩) l.length cap) at' 0)) (hb : By w (some ⟨b, off, none⟩) l) (hne : b ≠ i) :
    Calls Tryd.prog 54 #[.pointer (some ⟨i, 0, none⟩)] w fun e w' => e = .returned (.int .i32 (wrap32 (num ((l.drop at').take 4) : Nat))) ∧ Row w' i 51 (inL (.slice (some ⟨b, off, none⟩) l.length cap) (at' + 4) 0) ∧ w.grownBy w' (some i) := by
  have HA := hid' (ahead_ok i b off l.length cap at' 4 (by decide) h1 h2 h3 w hR)
  have HR := hid' hR
  have hx := num_lt ((l.drop at').take 4)
  have h4 : ((l.drop at').take 4).length = 4 := by simp; omega
  rw [h4] at hx
  have HB := hid' (hb.piece at' 4)
  clear hb hR
  go_enter Tryd.func54, Tryd.ntmps54
  go_upto_region 4 with (first
    | (go_at_call 80; refine (width80 _).mono ?_; rintro e w1 ⟨rfl, rfl⟩)
    | (go_at_call 76; refine HA.out.mono ?_; rintro e w2 ⟨rfl, g2⟩))
  have R2 := HR.out.below g2.below HR.out.lt
  have c1 : w2.cell? ⟨i, 1, none⟩ = some (.int .i64 (at' : Nat)) := R2.cell 1
  have f1 := R2.frozen 1
  have R3 : Hid (Row (w2.setCell ⟨i, 1, none⟩ (.int .i64 ((at' : Nat) + 4))) i 51 (inL (.slice (some ⟨b, off, none⟩) l.length cap) (at' + 4) 0)) := R2.set 1 _
  have G3 : Hid (w1.grownBy (w2.setCell ⟨i, 1, none⟩ (.int .i64 ((at' : Nat) + 4))) (some i)) := grown_trans (below_grown g2.below _) (setCells_grown [_] 1 w2)
  have HN := hid' (number_at (cap := cap - at') h4 (by decide) ((HB.out.grown G3.out (by intro a e; cases e; simpa using hne))))
  generalize hX : num ((l.drop at').take 4) = X at *
  have HX := hid' hX
  clear hX
  have hwr : IntKind.i32.wrap (X : Int) = IntKind.i32.wrap (X : Int) := rfl
  clear HB HR R2 g2 HA hwr
  go_wp2_with (go_at_call 70; refine HN.out.mono ?_; rintro e w4 ⟨rfl, rfl⟩)
  go_ret
  refine ⟨?_, R3.out, G3.out⟩
  rw [HX.out]
  rfl
set_option maxRecDepth 20000 in
set_option maxHeartbeats 3200000 in
theorem take54_none (p : Value) (w : World) (Q : World → Prop) (HA : Hid (Calls Tryd.prog 76 #[p, .int .i64 4] w fun e w' => e = .returned (.tuple #[.slice none 0 0, .bool false]) ∧ Q w')) :
    Calls Tryd.prog 54 #[p] w fun e w' => e = .returned (.int .i32 0) ∧ Q w' := by
  go_enter Tryd.func54, Tryd.ntmps54
  go_wp2_with (first
    | (go_at_call 80; refine (width80 _).mono ?_; rintro e w1 ⟨rfl, rfl⟩)
    | (go_at_call 76; refine HA.out.mono ?_; rintro e w2 ⟨rfl, q2⟩))
  go_ret
  exact ⟨rfl, q2⟩
theorem take54_nil (w : World) : Calls Tryd.prog 54 #[.pointer none] w fun e w' => e = .returned (.int .i32 0) ∧ w' = w :=
  take54_none _ w (fun w' => w' = w) (ahead_nil 4 w)
theorem take54_any (i at' f : Nat) (l : List UInt8) (w : World) (h : InIs w i l at' f) :
    Calls Tryd.prog 54 #[.pointer (some ⟨i, 0, none⟩)] w fun e w' => e = .returned (.int .i32 (wrap32 (fixV l 4 at' f : Nat))) ∧ InIs w' i l (fixA l 4 at' f) (fixF l 4 at' f) ∧ w.grownBy w' (some i) := by
  obtain ⟨ao, cap, h1, h2, h3, h4, h5, h6⟩ := h
  by_cases hf : f = 0
  · subst hf
    by_cases he : at' + 4 ≤ l.length
    · obtain ⟨e1, e2, e3⟩ := fix_yes he
      obtain ⟨b, off, rfl, _⟩ := h2 0 (by omega)
      rw [e1, e2, e3]
      refine (take54_ok i b off cap at' l he h3 h6 w h1 h2 (h4 _ rfl)).mono ?_
      rintro e w' ⟨rfl, r, g⟩
      exact ⟨rfl, ⟨_, cap, r, h2.grown g (by intro a e; cases e; simpa using h4 _ rfl), h3, h4, he, h6⟩, g⟩
    · obtain ⟨e1, e2, e3⟩ := fix_ends he
      rw [e1, e2, e3]
      refine (take54_none _ w (fun w' => Row w' i 51 (inL (.slice ao l.length cap) at' 30) ∧ w.grownBy w' (some i)) (ahead_ends i l.length cap at' 4 ao he h5 h6 w h1)).mono ?_
      rintro e w' ⟨rfl, r, g⟩
      exact ⟨by simp [wrap32], ⟨ao, cap, r, h2.grown g (fun a e => by simpa using h4 a e), h3, h4, h5, h6⟩, g⟩
  · obtain ⟨e1, e2, e3⟩ := fix_no (l := l) (n := 4) (at' := at') hf
    rw [e1, e2, e3]
    refine (take54_none _ w (fun w' => w' = w) (ahead_wrong i 4 f at' hf _ w h1)).mono ?_
    rintro e w' ⟨rfl, rfl⟩
    exact ⟨by simp [wrap32], ⟨ao, cap, h1, h2, h3, h4, h5, h6⟩, World.grownBy.refl _ _⟩
set_option maxRecDepth 20000 in
set_option maxHeartbeats 3200000 in
theorem take55_ok (i b off cap at' : Nat) (l : List UInt8) (h1 : at' + 4 ≤ l.length) (h2 : l.length ≤ cap) (h3 : l.length ≤ 140737488351232) (w : World) (hR : Row w i 51 (inL (.slice (some ⟨b, off, none⟩) l.length cap) at' 0)) (hb : By w (some ⟨b, off, none⟩) l) (hne : b ≠ i) :
    Calls Tryd.prog 55 #[.pointer (some ⟨i, 0, none⟩)] w fun e w' => e = .returned (.int .u32 (IntKind.u32.wrap (num ((l.drop at').take 4) : Nat))) ∧ Row w' i 51 (inL (.slice (some ⟨b, off, none⟩) l.length cap) (at' + 4) 0) ∧ w.grownBy w' (some i) := by
  have HA := hid' (ahead_ok i b off l.length cap at' 4 (by decide) h1 h2 h3 w hR)
  have HR := hid' hR
  have hx := num_lt ((l.drop at').take 4)
  have h4 : ((l.drop at').take 4).length = 4 := by simp; omega
  rw [h4] at hx
  have HB := hid' (hb.piece at' 4)
  clear hb hR
  go_enter Tryd.func55, Tryd.ntmps55
  go_upto_region 4 with (first
    | (go_at_call 81; refine (width81 _).mono ?_; rintro e w1 ⟨rfl, rfl⟩)
    | (go_at_call 76; refine HA.out.mono ?_; rintro e w2 ⟨rfl, g2⟩))
  have R2 := HR.out.below g2.below HR.out.lt
  have c1 : w2.cell? ⟨i, 1, none⟩ = some (.int .i64 (at' : Nat)) := R2.cell 1
  have f1 := R2.frozen 1
  have R3 : Hid (Row (w2.setCell ⟨i, 1, none⟩ (.int .i64 ((at' : Nat) + 4))) i 51 (inL (.slice (some ⟨b, off, none⟩) l.length cap) (at' + 4) 0)) := R2.set 1 _
  have G3 : Hid (w1.grownBy (w2.setCell ⟨i, 1, none⟩ (.int .i64 ((at' : Nat) + 4))) (some i)) := grown_trans (below_grown g2.below _) (setCells_grown [_] 1 w2)
  have HN := hid' (number_at (cap := cap - at') h4 (by decide) ((HB.out.grown G3.out (by intro a e; cases e; simpa using hne))))
  generalize hX : num ((l.drop at').take 4) = X at *
  have HX := hid' hX
  clear hX
  have hwr : IntKind.u32.wrap (X : Int) = IntKind.u32.wrap (X : Int) := rfl
  clear HB HR R2 g2 HA hwr
  go_wp2_with (go_at_call 70; refine HN.out.mono ?_; rintro e w4 ⟨rfl, rfl⟩)
  go_ret
  refine ⟨?_, R3.out, G3.out⟩
  rw [HX.out]
  rw [show IntKind.u32.wrap (X : Int) = X from by rw [IntKind.wrap_u32']; omega]
  rfl
set_option maxRecDepth 20000 in
set_option maxHeartbeats 3200000 in
theorem take55_none (p : Value) (w : World) (Q : World → Prop) (HA : Hid (Calls Tryd.prog 76 #[p, .int .i64 4] w fun e w' => e = .returned (.tuple #[.slice none 0 0, .bool false]) ∧ Q w')) :
    Calls Tryd.prog 55 #[p] w fun e w' => e = .returned (.int .u32 0) ∧ Q w' := by
  go_enter Tryd.func55, Tryd.ntmps55
  go_wp2_with (first
    | (go_at_call 81; refine (width81 _).mono ?_; rintro e w1 ⟨rfl, rfl⟩)
    | (go_at_call 76; refine HA.out.mono ?_; rintro e w2 ⟨rfl, q2⟩))
  go_ret
  exact ⟨rfl, q2⟩
theorem take55_nil (w : World) : Calls Tryd.prog 55 #[.pointer none] w fun e w' => e = .returned (.int .u32 0) ∧ w' = w :=
  take55_none _ w (fun w' => w' = w) (ahead_nil 4 w)
theorem take55_any (i at' f : Nat) (l : List UInt8) (w : World) (h : InIs w i l at' f) :
    Calls Tryd.prog 55 #[.pointer (some ⟨i, 0, none⟩)] w fun e w' => e = .returned (.int .u32 (IntKind.u32.wrap (fixV l 4 at' f : Nat))) ∧ InIs w' i l (fixA l 4 at' f) (fixF l 4 at' f) ∧ w.grownBy w' (some i) := by
  obtain ⟨ao, cap, h1, h2, h3, h4, h5, h6⟩ := h
  by_cases hf : f = 0
  · subst hf
    by_cases he : at' + 4 ≤ l.length
    · obtain ⟨e1, e2, e3⟩ := fix_yes he
      obtain ⟨b, off, rfl, _⟩ := h2 0 (by omega)
      rw [e1, e2, e3]
      refine (take55_ok i b off cap at' l he h3 h6 w h1 h2 (h4 _ rfl)).mono ?_
      rintro e w' ⟨rfl, r, g⟩
      exact ⟨rfl, ⟨_, cap, r, h2.grown g (by intro a e; cases e; simpa using h4 _ rfl), h3, h4, he, h6⟩, g⟩
    · obtain ⟨e1, e2, e3⟩ := fix_ends he
      rw [e1, e2, e3]
      refine (take55_none _ w (fun w' => Row w' i 51 (inL (.slice ao l.length cap) at' 30) ∧ w.grownBy w' (some i)) (ahead_ends i l.length cap at' 4 ao he h5 h6 w h1)).mono ?_
      rintro e w' ⟨rfl, r, g⟩
      exact ⟨rfl, ⟨ao, cap, r, h2.grown g (fun a e => by simpa using h4 a e), h3, h4, h5, h6⟩, g⟩
  · obtain ⟨e1, e2, e3⟩ := fix_no (l := l) (n := 4) (at' := at') hf
    rw [e1, e2, e3]
    refine (take55_none _ w (fun w' => w' = w) (ahead_wrong i 4 f at' hf _ w h1)).mono ?_
    rintro e w' ⟨rfl, rfl⟩
    exact ⟨rfl, ⟨ao, cap, h1, h2, h3, h4, h5, h6⟩, World.grownBy.refl _ _⟩
set_option maxRecDepth 20000 in
set_option maxHeartbeats 3200000 in
theorem take56_ok (i b off cap at' : Nat) (l : List UInt8) (h1 : at' + 8 ≤ l.length) (h2 : l.length ≤ cap) (h3 : l.length ≤ 140737488351232) (w : World) (hR : Row w i 51 (inL (.slice (some ⟨b, off, none⟩) l.length cap) at' 0)) (hb : By w (some ⟨b, off, none⟩) l) (hne : b ≠ i) :
    Calls Tryd.prog 56 #[.pointer (some ⟨i, 0, none⟩)] w fun e w' => e = .returned (.int .i64 (wrap64 (num ((l.drop at').take 8) : Nat))) ∧ Row w' i 51 (inL (.slice (some ⟨b, off, none⟩) l.length cap) (at' + 8) 0) ∧ w.grownBy w' (some i) := by
  have HA := hid' (ahead_ok i b off l.length cap at' 8 (by decide) h1 h2 h3 w hR)
  have HR := hid' hR
  have hx := num_lt ((l.drop at').take 8)
  have h4 : ((l.drop at').take 8).length = 8 := by simp; omega
  rw [h4] at hx
  have HB := hid' (hb.piece at' 8)
  clear hb hR
  go_enter Tryd.func56, Tryd.ntmps56
  go_upto_region 4 with (first
    | (go_at_call 82; refine (width82 _).mono ?_; rintro e w1 ⟨rfl, rfl⟩)
    | (go_at_call 76; refine HA.out.mono ?_; rintro e w2 ⟨rfl, g2⟩))
  have R2 := HR.out.below g2.below HR.out.lt
  have c1 : w2.cell? ⟨i, 1, none⟩ = some (.int .i64 (at' : Nat)) := R2.cell 1
  have f1 := R2.frozen 1
  have R3 : Hid (Row (w2.setCell ⟨i, 1, none⟩ (.int .i64 ((at' : Nat) + 8))) i 51 (inL (.slice (some ⟨b, off, none⟩) l.length cap) (at' + 8) 0)) := R2.set 1 _
  have G3 : Hid (w1.grownBy (w2.setCell ⟨i, 1, none⟩ (.int .i64 ((at' : Nat) + 8))) (some i)) := grown_trans (below_grown g2.below _) (setCells_grown [_] 1 w2)
  have HN := hid' (number_at (cap := cap - at') h4 (by decide) ((HB.out.grown G3.out (by intro a e; cases e; simpa using hne))))
  generalize hX : num ((l.drop at').take 8) = X at *
  have HX := hid' hX
  clear hX
  have hwr : IntKind.i64.wrap (X : Int) = IntKind.i64.wrap (X : Int) := rfl
  clear HB HR R2 g2 HA hwr
  go_wp2_with (go_at_call 70; refine HN.out.mono ?_; rintro e w4 ⟨rfl, rfl⟩)
  go_ret
  refine ⟨?_, R3.out, G3.out⟩
  rw [HX.out]
  rfl
set_option maxRecDepth 20000 in
set_option maxHeartbeats 3200000 in
theorem take56_none (p : Value) (w : World) (Q : World → Prop) (HA : Hid (Calls Tryd.prog 76 #[p, .int .i64 8] w fun e w' => e = .returned (.tuple #[.slice none 0 0, .bool false]) ∧ Q w')) :
    Calls Tryd.prog 56 #[p] w fun e w' => e = .returned (.int .i64 0) ∧ Q w' := by
  go_enter Tryd.func56, Tryd.ntmps56
  go_wp2_with (first
    | (go_at_call 82; refine (width82 _).mono ?_; rintro e w1 ⟨rfl, rfl⟩)
    | (go_at_call 76; refine HA.out.mono ?_; rintro e w2 ⟨rfl, q2⟩))
  go_ret
  exact ⟨rfl, q2⟩
theorem take56_nil (w : World) : Calls Tryd.prog 56 #[.pointer none] w fun e w' => e = .returned (.int .i64 0) ∧ w' = w :=
  take56_none _ w (fun w' => w' = w) (ahead_nil 8 w)
theorem take56_any (i at' f : Nat) (l : List UInt8) (w : World) (h : InIs w i l at' f) :
    Calls Tryd.prog 56 #[.pointer (some ⟨i, 0, none⟩)] w fun e w' => e = .returned (.int .i64 (wrap64 (fixV l 8 at' f : Nat))) ∧ InIs w' i l (fixA l 8 at' f) (fixF l 8 at' f) ∧ w.grownBy w' (some i) := by
  obtain ⟨ao, cap, h1, h2, h3, h4, h5, h6⟩ := h
  by_cases hf : f = 0
  · subst hf
    by_cases he : at' + 8 ≤ l.length
    · obtain ⟨e1, e2, e3⟩ := fix_yes he
      obtain ⟨b, off, rfl, _⟩ := h2 0 (by omega)
      rw [e1, e2, e3]
      refine (take56_ok i b off cap at' l he h3 h6 w h1 h2 (h4 _ rfl)).mono ?_
      rintro e w' ⟨rfl, r, g⟩
      exact ⟨rfl, ⟨_, cap, r, h2.grown g (by intro a e; cases e; simpa using h4 _ rfl), h3, h4, he, h6⟩, g⟩
    · obtain ⟨e1, e2, e3⟩ := fix_ends he
      rw [e1, e2, e3]
      refine (take56_none _ w (fun w' => Row w' i 51 (inL (.slice ao l.length cap) at' 30) ∧ w.grownBy w' (some i)) (ahead_ends i l.length cap at' 8 ao he h5 h6 w h1)).mono ?_
      rintro e w' ⟨rfl, r, g⟩
      exact ⟨by simp [wrap64], ⟨ao, cap, r, h2.grown g (fun a e => by simpa using h4 a e), h3, h4, h5, h6⟩, g⟩
  · obtain ⟨e1, e2, e3⟩ := fix_no (l := l) (n := 8) (at' := at') hf
    rw [e1, e2, e3]
    refine (take56_none _ w (fun w' => w' = w) (ahead_wrong i 8 f at' hf _ w h1)).mono ?_
    rintro e w' ⟨rfl, rfl⟩
    exact ⟨by simp [wrap64], ⟨ao, cap, h1, h2, h3, h4, h5, h6⟩, World.grownBy.refl _ _⟩
set_option maxRecDepth 20000 in
set_option maxHeartbeats 3200000 in
theorem take57_ok (i b off cap at' : Nat) (l : List UInt8) (h1 : at' + 8 ≤ l.length) (h2 : l.length ≤ cap) (h3 : l.length ≤ 140737488351232) (w : World) (hR : Row w i 51 (inL (.slice (some ⟨b, off, none⟩) l.length cap) at' 0)) (hb : By w (some ⟨b, off, none⟩) l) (hne : b ≠ i) :
    Calls Tryd.prog 57 #[.pointer (some ⟨i, 0, none⟩)] w fun e w' => e = .returned (.int .u64 (IntKind.u64.wrap (num ((l.drop at').take 8) : Nat))) ∧ Row w' i 51 (inL (.slice (some ⟨b, off, none⟩) l.length cap) (at' + 8) 0) ∧ w.grownBy w' (some i) := by
  have HA := hid' (ahead_ok i b off l.length cap at' 8 (by decide) h1 h2 h3 w hR)
  have HR := hid' hR
  have hx := num_lt ((l.drop at').take 8)
  have h4 : ((l.drop at').take 8).length = 8 := by simp; omega
  rw [h4] at hx
  have HB := hid' (hb.piece at' 8)
  clear hb hR
  go_enter Tryd.func57, Tryd.ntmps57
  go_upto_region 4 with (first
    | (go_at_call 83; refine (width83 _).mono ?_; rintro e w1 ⟨rfl, rfl⟩)
    | (go_at_call 76; refine HA.out.mono ?_; rintro e w2 ⟨rfl, g2⟩))
  have R2 := HR.out.below g2.below HR.out.lt
  have c1 : w2.cell? ⟨i, 1, none⟩ = some (.int .i64 (at' : Nat)) := R2.cell 1
  have f1 := R2.frozen 1
  have R3 : Hid (Row (w2.setCell ⟨i, 1, none⟩ (.int .i64 ((at' : Nat) + 8))) i 51 (inL (.slice (some ⟨b, off, none⟩) l.length cap) (at' + 8) 0)) := R2.set 1 _
  have G3 : Hid (w1.grownBy (w2.setCell ⟨i, 1, none⟩ (.int .i64 ((at' : Nat) + 8))) (some i)) := grown_trans (below_grown g2.below _) (setCells_grown [_] 1 w2)
  have HN := hid' (number_at (cap := cap - at') h4 (by decide) ((HB.out.grown G3.out (by intro a e; cases e; simpa using hne))))
  generalize hX : num ((l.drop at').take 8) = X at *
  have HX := hid' hX
  clear hX
  have hwr : IntKind.u64.wrap (X : Int) = IntKind.u64.wrap (X : Int) := rfl
  clear HB HR R2 g2 HA hwr
  go_wp2_with (go_at_call 70; refine HN.out.mono ?_; rintro e w4 ⟨rfl, rfl⟩)
  go_ret
  refine ⟨?_, R3.out, G3.out⟩
  rw [HX.out]
  rw [show IntKind.u64.wrap (X : Int) = X from by rw [IntKind.wrap_u64]; omega]
  rfl
set_option maxRecDepth 20000 in
set_option maxHeartbeats 3200000 in
theorem take57_none (p : Value) (w : World) (Q : World → Prop) (HA : Hid (Calls Tryd.prog 76 #[p, .int .i64 8] w fun e w' => e = .returned (.tuple #[.slice none 0 0, .bool false]) ∧ Q w')) :
    Calls Tryd.prog 57 #[p] w fun e w' => e = .returned (.int .u64 0) ∧ Q w' := by
  go_enter Tryd.func57, Tryd.ntmps57
  go_wp2_with (first
    | (go_at_call 83; refine (width83 _).mono ?_; rintro e w1 ⟨rfl, rfl⟩)
    | (go_at_call 76; refine HA.out.mono ?_; rintro e w2 ⟨rfl, q2⟩))
  go_ret
  exact ⟨rfl, q2⟩
theorem take57_nil (w : World) : Calls Tryd.prog 57 #[.pointer none] w fun e w' => e = .returned (.int .u64 0) ∧ w' = w :=
  take57_none _ w (fun w' => w' = w) (ahead_nil 8 w)
theorem take57_any (i at' f : Nat) (l : List UInt8) (w : World) (h : InIs w i l at' f) :
    Calls Tryd.prog 57 #[.pointer (some ⟨i, 0, none⟩)] w fun e w' => e = .returned (.int .u64 (IntKind.u64.wrap (fixV l 8 at' f : Nat))) ∧ InIs w' i l (fixA l 8 at' f) (fixF l 8 at' f) ∧ w.grownBy w' (some i) := by
  obtain ⟨ao, cap, h1, h2, h3, h4, h5, h6⟩ := h
  by_cases hf : f = 0
  · subst hf
    by_cases he : at' + 8 ≤ l.length
    · obtain ⟨e1, e2, e3⟩ := fix_yes he
      obtain ⟨b, off, rfl, _⟩ := h2 0 (by omega)
      rw [e1, e2, e3]
      refine (take57_ok i b off cap at' l he h3 h6 w h1 h2 (h4 _ rfl)).mono ?_
      rintro e w' ⟨rfl, r, g⟩
      exact ⟨rfl, ⟨_, cap, r, h2.grown g (by intro a e; cases e; simpa using h4 _ rfl), h3, h4, he, h6⟩, g⟩
    · obtain ⟨e1, e2, e3⟩ := fix_ends he
      rw [e1, e2, e3]
      refine (take57_none _ w (fun w' => Row w' i 51 (inL (.slice ao l.length cap) at' 30) ∧ w.grownBy w' (some i)) (ahead_ends i l.length cap at' 8 ao he h5 h6 w h1)).mono ?_
      rintro e w' ⟨rfl, r, g⟩
      exact ⟨rfl, ⟨ao, cap, r, h2.grown g (fun a e => by simpa using h4 a e), h3, h4, h5, h6⟩, g⟩
  · obtain ⟨e1, e2, e3⟩ := fix_no (l := l) (n := 8) (at' := at') hf
    rw [e1, e2, e3]
    refine (take57_none _ w (fun w' => w' = w) (ahead_wrong i 8 f at' hf _ w h1)).mono ?_
    rintro e w' ⟨rfl, rfl⟩
    exact ⟨rfl, ⟨ao, cap, h1, h2, h3, h4, h5, h6⟩, World.grownBy.refl _ _⟩
set_option maxRecDepth 20000 in
set_option maxHeartbeats 3200000 in
theorem take62_ok (i b off cap at' : Nat) (l : List UInt8) (h1 : at' + 1 ≤ l.length) (h2 : l.length ≤ cap) (h3 : l.length ≤ 140737488351232) (w : World) (hR : Row w i 51 (inL (.slice (some ⟨b, off, none⟩) l.length cap) at' 0)) (hb : By w (some ⟨b, off, none⟩) l) (hne : b ≠ i) :
    Calls Tryd.prog 62 #[.pointer (some ⟨i, 0, none⟩)] w fun e w' => e = .returned (.int .u8 (IntKind.u8.wrap (num ((l.drop at').take 1) : Nat))) ∧ Row w' i 51 (inL (.slice (some ⟨b, off, none⟩) l.length cap) (at' + 1) 0) ∧ w.grownBy w' (some i) := by
  have HA := hid' (ahead_ok i b off l.length cap at' 1 (by decide) h1 h2 h3 w hR)
  have HR := hid' hR
  have hx := num_lt ((l.drop at').take 1)
  have h4 : ((l.drop at').take 1).length = 1 := by simp; omega
  rw [h4] at hx
  have HB := hid' (hb.piece at' 1)
  clear hb hR
  go_enter Tryd.func62, Tryd.ntmps62
  go_upto_region 4 with (first
    | (go_at_call 85; refine (width85 _).mono ?_; rintro e w1 ⟨rfl, rfl⟩)
    | (go_at_call 76; refine HA.out.mono ?_; rintro e w2 ⟨rfl, g2⟩))
  have R2 := HR.out.below g2.below HR.out.lt
  have c1 : w2.cell? ⟨i, 1, none⟩ = some (.int .i64 (at' : Nat)) := R2.cell 1
  have f1 := R2.frozen 1
  have R3 : Hid (Row (w2.setCell ⟨i, 1, none⟩ (.int .i64 ((at' : Nat) + 1))) i 51 (inL (.slice (some ⟨b, off, none⟩) l.length cap) (at' + 1) 0)) := R2.set 1 _
  have G3 : Hid (w1.grownBy (w2.setCell ⟨i, 1, none⟩ (.int .i64 ((at' : Nat) + 1))) (some i)) := grown_trans (below_grown g2.below _) (setCells_grown [_] 1 w2)
  have HN := hid' (number_at (cap := cap - at') h4 (by decide) ((HB.out.grown G3.out (by intro a e; cases e; simpa using hne))))
  generalize hX : num ((l.drop at').take 1) = X at *
  have HX := hid' hX
  clear hX
  have hwr : IntKind.u8.wrap (X : Int) = IntKind.u8.wrap (X : Int) := rfl
  clear HB HR R2 g2 HA hwr
  go_wp2_with (go_at_call 70; refine HN.out.mono ?_; rintro e w4 ⟨rfl, rfl⟩)
  go_ret
  refine ⟨?_, R3.out, G3.out⟩
  rw [HX.out]
  rw [show IntKind.u8.wrap (X : Int) = X from by rw [IntKind.wrap_u8']; omega]
  rfl
set_option maxRecDepth 20000 in
set_option maxHeartbeats 3200000 in
theorem take62_none (p : Value) (w : World) (Q : World → Prop) (HA : Hid (Calls Tryd.prog 76 #[p, .int .i64 1] w fun e w' => e = .returned (.tuple #[.slice none 0 0, .bool false]) ∧ Q w')) :
    Calls Tryd.prog 62 #[p] w fun e w' => e = .returned (.int .u8 0) ∧ Q w' := by
  go_enter Tryd.func62, Tryd.ntmps62
  go_wp2_with (first
    | (go_at_call 85; refine (width85 _).mono ?_; rintro e w1 ⟨rfl, rfl⟩)
    | (go_at_call 76; refine HA.out.mono ?_; rintro e w2 ⟨rfl, q2⟩))
  go_ret
  exact ⟨rfl, q2⟩
theorem take62_nil (w : World) : Calls Tryd.prog 62 #[.pointer none] w fun e w' => e = .returned (.int .u8 0) ∧ w' = w :=
  take62_none _ w (fun w' => w' = w) (ahead_nil 1 w)
theorem take62_any (i at' f : Nat) (l : List UInt8) (w : World) (h : InIs w i l at' f) :
    Calls Tryd.prog 62 #[.pointer (some ⟨i, 0, none⟩)] w fun e w' => e = .returned (.int .u8 (IntKind.u8.wrap (fixV l 1 at' f : Nat))) ∧ InIs w' i l (fixA l 1 at' f) (fixF l 1 at' f) ∧ w.grownBy w' (some i) := by
  obtain ⟨ao, cap, h1, h2, h3, h4, h5, h6⟩ := h
  by_cases hf : f = 0
  · subst hf
    by_cases he : at' + 1 ≤ l.length
    · obtain ⟨e1, e2, e3⟩ := fix_yes he
      obtain ⟨b, off, rfl, _⟩ := h2 0 (by omega)
      rw [e1, e2, e3]
      refine (take62_ok i b off cap at' l he h3 h6 w h1 h2 (h4 _ rfl)).mono ?_
      rintro e w' ⟨rfl, r, g⟩
      exact ⟨rfl, ⟨_, cap, r, h2.grown g (by intro a e; cases e; simpa using h4 _ rfl), h3, h4, he, h6⟩, g⟩
    · obtain ⟨e1, e2, e3⟩ := fix_ends he
      rw [e1, e2, e3]
      refine (take62_none _ w (fun w' => Row w' i 51 (inL (.slice ao l.length cap) at' 30) ∧ w.grownBy w' (some i)) (ahead_ends i l.length cap at' 1 ao he h5 h6 w h1)).mono ?_
      rintro e w' ⟨rfl, r, g⟩
      exact ⟨rfl, ⟨ao, cap, r, h2.grown g (fun a e => by simpa using h4 a e), h3, h4, h5, h6⟩, g⟩
  · obtain ⟨e1, e2, e3⟩ := fix_no (l := l) (n := 1) (at' := at') hf
    rw [e1, e2, e3]
    refine (take62_none _ w (fun w' => w' = w) (ahead_wrong i 1 f at' hf _ w h1)).mono ?_
    rintro e w' ⟨rfl, rfl⟩
    exact ⟨rfl, ⟨ao, cap, h1, h2, h3, h4, h5, h6⟩, World.grownBy.refl _ _⟩
end Go.Proofs.YtomklacjaadcaaaDoor
