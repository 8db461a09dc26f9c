/- The reference's Inner and Product on the lattice. -/
import Derived.Test.YtljdnahomhbenaaTh8
import Derived.Test.YtljdnahomhbenaaRef6
namespace Go.Proofs.Ytljdnahomhbenaa
section
set_option linter.unusedSimpArgs false
set_option linter.unusedVariables false
open Go.RowKit Go.Sort

set_option maxHeartbeats 1000000 in
theorem rinner_num (ox oy ax ay bx by_ : Int) (h0 : in32 ox) (h1 : in32 oy) (h2 : in32 ax) (h3 : in32 ay) (h4 : in32 bx) (h5 : in32 by_) (w : World) :
    Calls Try.prog 106 #[pt ox oy, pt ax ay, pt bx by_] w fun e w' => ∃ z, e = .returned z ∧ Nm w' z ((ax - ox) * (bx - ox) + (ay - oy) * (by_ - oy)) ∧ Below w.heap.size w w' := by
  have C : Hid (∀ w, Calls Try.prog 71 #[pt ox oy, pt ax ay, pt bx by_] w fun e w' => ∃ z, e = .returned z ∧ Nm w' z ((ax - ox) * (bx - ox) + (ay - oy) * (by_ - oy)) ∧ Below w.heap.size w w') := rdot_num ox oy ax ay bx by_ h0 h1 h2 h3 h4 h5
  clear h0 h1 h2 h3 h4 h5
  generalize (ax - ox) * (bx - ox) + (ay - oy) * (by_ - oy) = N at *
  have hb0 : Below w.heap.size w ((((w.alloc (.cells #[.int .i32 ox, .int .i32 oy] 28)).alloc (.cells #[.int .i32 ax, .int .i32 ay] 28)).alloc (.cells #[.int .i32 bx, .int .i32 by_] 28)).alloc (.cells #[.bool false, .slice none 0 0] 53)) := (((((Gr.refl _).alloc _).alloc _).alloc _).alloc _).below
  have k0 : Bk ((((w.alloc (.cells #[.int .i32 ox, .int .i32 oy] 28)).alloc (.cells #[.int .i32 ax, .int .i32 ay] 28)).alloc (.cells #[.int .i32 bx, .int .i32 by_] 28)).alloc (.cells #[.bool false, .slice none 0 0] 53)) (w.heap.size + 1 + 1 + 1) (.bool false) (.slice none 0 0) := by
    simpa using Bk.new (((w.alloc (.cells #[.int .i32 ox, .int .i32 oy] 28)).alloc (.cells #[.int .i32 ax, .int .i32 ay] 28)).alloc (.cells #[.int .i32 bx, .int .i32 by_] 28)) (.bool false) (.slice none 0 0)
  go_enter Try.func106, Try.ntmps106
  go_wp2_with fail
  refine (C.out _).mono ?_
  rintro e w1 ⟨z, rfl, hz, hb1⟩
  obtain ⟨r, ao, la, ca, rfl, hz'⟩ := hz.shape
  replace k0 := k0.mono hb1 k0.lt
  replace hb0 := hb0.trans (hb1.mono hb0.size)
  have q0 := k0.c0
  have q1 := k0.c1
  have q2 := k0.f0
  have q3 := k0.f1
  clear hz C
  go_wp2
  refine bodyPost_ret (v := .agg #[.bool r, .slice ao la ca]) (by simp [results, Try.results106, go_sem, q0, q1]) rfl ⟨_, rfl, ?_, ?_⟩
  · exact (hz'.out.setBk k0 _).setBk (k0.set0 _) _
  · exact (hb0.setCell (by simp only []; omega) _).setCell (by simp only []; omega) _
set_option maxHeartbeats 1000000 in
theorem rprod_num (ox oy ax ay bx by_ : Int) (h0 : in32 ox) (h1 : in32 oy) (h2 : in32 ax) (h3 : in32 ay) (h4 : in32 bx) (h5 : in32 by_) (w : World) :
    Calls Try.prog 107 #[pt ox oy, pt ax ay, pt bx by_] w fun e w' => ∃ z, e = .returned z ∧ Nm w' z ((ax - ox) * (by_ - oy) - (ay - oy) * (bx - ox)) ∧ Below w.heap.size w w' := by
  have C : Hid (∀ w, Calls Try.prog 53 #[pt ox oy, pt ax ay, pt bx by_] w fun e w' => ∃ z, e = .returned z ∧ Nm w' z ((ax - ox) * (by_ - oy) - (ay - oy) * (bx - ox)) ∧ Below w.heap.size w w') := rcross_num ox oy ax ay bx by_ h0 h1 h2 h3 h4 h5
  clear h0 h1 h2 h3 h4 h5
  generalize (ax - ox) * (by_ - oy) - (ay - oy) * (bx - ox) = N at *
  have hb0 : Below w.heap.size w ((((w.alloc (.cells #[.int .i32 ox, .int .i32 oy] 28)).alloc (.cells #[.int .i32 ax, .int .i32 ay] 28)).alloc (.cells #[.int .i32 bx, .int .i32 by_] 28)).alloc (.cells #[.bool false, .slice none 0 0] 53)) := (((((Gr.refl _).alloc _).alloc _).alloc _).alloc _).below
  have k0 : Bk ((((w.alloc (.cells #[.int .i32 ox, .int .i32 oy] 28)).alloc (.cells #[.int .i32 ax, .int .i32 ay] 28)).alloc (.cells #[.int .i32 bx, .int .i32 by_] 28)).alloc (.cells #[.bool false, .slice none 0 0] 53)) (w.heap.size + 1 + 1 + 1) (.bool false) (.slice none 0 0) := by
    simpa using Bk.new (((w.alloc (.cells #[.int .i32 ox, .int .i32 oy] 28)).alloc (.cells #[.int .i32 ax, .int .i32 ay] 28)).alloc (.cells #[.int .i32 bx, .int .i32 by_] 28)) (.bool false) (.slice none 0 0)
  go_enter Try.func107, Try.ntmps107
  go_wp2_with fail
  refine (C.out _).mono ?_
  rintro e w1 ⟨z, rfl, hz, hb1⟩
  obtain ⟨r, ao, la, ca, rfl, hz'⟩ := hz.shape
  replace k0 := k0.mono hb1 k0.lt
  replace hb0 := hb0.trans (hb1.mono hb0.size)
  have q0 := k0.c0
  have q1 := k0.c1
  have q2 := k0.f0
  have q3 := k0.f1
  clear hz C
  go_wp2
  refine bodyPost_ret (v := .agg #[.bool r, .slice ao la ca]) (by simp [results, Try.results107, go_sem, q0, q1]) rfl ⟨_, rfl, ?_, ?_⟩
  · exact (hz'.out.setBk k0 _).setBk (k0.set0 _) _
  · exact (hb0.setCell (by simp only []; omega) _).setCell (by simp only []; omega) _
theorem rinner_lat (a b p : Int × Int) (ha : latP a) (hb : latP b) (hp : latP p) (w : World) : Calls Try.prog 106 #[pt a.1 a.2, pt b.1 b.2, pt p.1 p.2] w fun e w' => ∃ z, e = .returned z ∧ Nm w' z (al a b p) ∧ Below w.heap.size w w' :=
  rinner_num a.1 a.2 b.1 b.2 p.1 p.2 ha.in2.1 ha.in2.2 hb.in2.1 hb.in2.2 hp.in2.1 hp.in2.2 w
theorem rprod_lat (a b p : Int × Int) (ha : latP a) (hb : latP b) (hp : latP p) (w : World) : Calls Try.prog 107 #[pt a.1 a.2, pt b.1 b.2, pt p.1 p.2] w fun e w' => ∃ z, e = .returned z ∧ Nm w' z (cr a b p) ∧ Below w.heap.size w w' := by
  have := rprod_num a.1 a.2 b.1 b.2 p.1 p.2 ha.in2.1 ha.in2.2 hb.in2.1 hb.in2.2 hp.in2.1 hp.in2.2 w
  unfold cr
  exact this
theorem rsquare_lat (a b : Int × Int) (ha : latP a) (hb : latP b) (w : World) : Calls Try.prog 44 #[pt a.1 a.2, pt b.1 b.2] w fun e w' => ∃ z, e = .returned z ∧ Nm w' z (d2 a b) ∧ Below w.heap.size w w' :=
  rsquare_num a.1 a.2 b.1 b.2 ha.in2.1 ha.in2.2 hb.in2.1 hb.in2.2 w
theorem Hs.bl {w w' : World} {b t : Nat} {vs : Array Value} (h : Hs w b t vs) (g : Below w.heap.size w w') : Hs w' b t vs := (g.block b (lt_of_block h)).trans h
end
end Go.Proofs.Ytljdnahomhbenaa
