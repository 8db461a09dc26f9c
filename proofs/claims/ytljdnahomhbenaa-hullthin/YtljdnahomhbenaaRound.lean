/- Contracts of the reference's number out of two words, and of the two words of a number. -/
import Derived.Test.YtljdnahomhbenaaDiv
namespace Go.Proofs.Ytljdnahomhbenaa
section
open Go.RowKit Go.Sort

theorem p2_64 : p2 64 = 18446744073709551616 := by decide
theorem p2_128 : p2 128 = 340282366920938463463374607431768211456 := by rw [show 128 = 64 + 64 from rfl, p2_add, p2_64]; rfl
theorem p2_256 : p2 256 = 115792089237316195423570985008687907853269984665640564039457584007913129639936 := by rw [show 256 = 128 + 128 from rfl, p2_add, p2_128]; rfl
theorem p2_260 : p2 260 = 1852673427797059126777135760139006525652319754650249024631321344126610074238976 := by rw [show 260 = 256 + 4 from rfl, p2_add, p2_256]; rfl
theorem big_6000 : 1852673427797059126777135760139006525652319754650249024631321344126610074238976 ≤ p2 6000 := by rw [← p2_260]; exact p2_mono (by omega)
/-- A number of some 256 bits. -/
theorem small_256 {n : Int} (h : -115792089237316195423570985008687907853269984665640564039457584007913129639936 ≤ n) (h' : n ≤ 115792089237316195423570985008687907853269984665640564039457584007913129639936) : small n :=
  small_le (by have := big_6000; omega) (by have := big_6000; omega)

/-! ### Two variables that a statement makes and fills, in whatever order -/
theorem fin2 {cur : World} {X4 X5 : Nat} {x4 y4 x5 y5 : Value} {r3 r4 : Bool} {o3 o4 : Option Addr} {l3 c3 l4 c4 : Nat} {q l : Int} (k4 : Bk cur X4 x4 y4) (k5 : Bk cur X5 x5 y5) (hne : X4 ≠ X5)
    (hq : Nm cur (.agg #[.bool r3, .slice o3 l3 c3]) q) (hl : Nm cur (.agg #[.bool r4, .slice o4 l4 c4]) l) :
    Vr ((((cur.setCell ⟨X4, 0, none⟩ (.bool r3)).setCell ⟨X4, 1, none⟩ (.slice o3 l3 c3)).setCell ⟨X5, 0, none⟩ (.bool r4)).setCell ⟨X5, 1, none⟩ (.slice o4 l4 c4)) X4 q ∧
    Vr ((((cur.setCell ⟨X4, 0, none⟩ (.bool r3)).setCell ⟨X4, 1, none⟩ (.slice o3 l3 c3)).setCell ⟨X5, 0, none⟩ (.bool r4)).setCell ⟨X5, 1, none⟩ (.slice o4 l4 c4)) X5 l := by
  have j5 : Bk ((cur.setCell ⟨X4, 0, none⟩ (.bool r3)).setCell ⟨X4, 1, none⟩ (.slice o3 l3 c3)) X5 x5 y5 := (k5.other (fun e => hne e.symm) _).other (fun e => hne e.symm) _
  exact ⟨Vr.keep j5 (Vr.put k4 hq) hne _ _, Vr.put j5 ((hl.setBk k4 _).setBk (k4.set0 _) _)⟩
theorem Vr.made {w : World} {r : Bool} {o : Option Addr} {l c : Nat} {n : Int} (h : Nm w (.agg #[.bool r, .slice o l c]) n) : Vr (w.alloc (.cells #[.bool r, .slice o l c] 53)) w.heap.size n :=
  ⟨r, o, l, c, Bk.new w _ _, h.mono ((Gr.refl _).alloc _).below⟩
theorem Vr.alloc {w : World} {b : Nat} {n : Int} (h : Vr w b n) (o : Obj) : Vr (w.alloc o) b n := h.mono ((Gr.refl _).alloc _).below
theorem finA {K : Nat} {W cur : World} {r3 r4 : Bool} {o3 o4 : Option Addr} {l3 c3 l4 c4 : Nat} {q l : Int} (hq : Nm cur (.agg #[.bool r3, .slice o3 l3 c3]) q) (hl : Nm cur (.agg #[.bool r4, .slice o4 l4 c4]) l) (hb : Below K W cur) (hK : K ≤ cur.heap.size) :
    Vr ((cur.alloc (.cells #[.bool r3, .slice o3 l3 c3] 53)).alloc (.cells #[.bool r4, .slice o4 l4 c4] 53)) cur.heap.size q ∧
    Vr ((cur.alloc (.cells #[.bool r3, .slice o3 l3 c3] 53)).alloc (.cells #[.bool r4, .slice o4 l4 c4] 53)) (cur.heap.size + 1) l ∧
    Below K W ((cur.alloc (.cells #[.bool r3, .slice o3 l3 c3] 53)).alloc (.cells #[.bool r4, .slice o4 l4 c4] 53)) := by
  refine ⟨(Vr.made hq).alloc _, ?_, hb.trans ((below2 _ _ _).mono hK)⟩
  have h := Vr.made (hl.mono ((Gr.refl _).alloc (.cells #[.bool r3, .slice o3 l3 c3] 53)).below)
  rw [World.size_alloc] at h
  exact h
theorem finB {K : Nat} {W cur : World} {X : Nat} {x y : Value} {r3 r4 : Bool} {o3 o4 : Option Addr} {l3 c3 l4 c4 : Nat} {q l : Int} (k : Bk cur X x y) (hq : Nm cur (.agg #[.bool r3, .slice o3 l3 c3]) q) (hl : Nm cur (.agg #[.bool r4, .slice o4 l4 c4]) l) (hb : Below K W cur) (hX : K ≤ X) :
    Vr (((cur.setCell ⟨X, 0, none⟩ (.bool r3)).setCell ⟨X, 1, none⟩ (.slice o3 l3 c3)).alloc (.cells #[.bool r4, .slice o4 l4 c4] 53)) X q ∧
    Vr (((cur.setCell ⟨X, 0, none⟩ (.bool r3)).setCell ⟨X, 1, none⟩ (.slice o3 l3 c3)).alloc (.cells #[.bool r4, .slice o4 l4 c4] 53)) cur.heap.size l ∧
    Below K W (((cur.setCell ⟨X, 0, none⟩ (.bool r3)).setCell ⟨X, 1, none⟩ (.slice o3 l3 c3)).alloc (.cells #[.bool r4, .slice o4 l4 c4] 53)) := by
  have hlt := k.lt
  refine ⟨(Vr.put k hq).alloc _, ?_, (keep2 hb hX _ _).alloc (by simp [World.setCell]; omega) _⟩
  have h := Vr.made ((hl.setBk k (.bool r3) (o := 0)).setBk (k.set0 (.bool r3)) (.slice o3 l3 c3) (o := 1))
  have e : ((cur.setCell ⟨X, 0, none⟩ (.bool r3)).setCell ⟨X, 1, none⟩ (.slice o3 l3 c3)).heap.size = cur.heap.size := by simp [World.setCell]
  rw [e] at h
  exact h
theorem finC {K : Nat} {W cur : World} {X4 X5 : Nat} {x4 y4 x5 y5 : Value} {r3 r4 : Bool} {o3 o4 : Option Addr} {l3 c3 l4 c4 : Nat} {q l : Int} (k4 : Bk cur X4 x4 y4) (k5 : Bk cur X5 x5 y5) (hne : X4 ≠ X5)
    (hq : Nm cur (.agg #[.bool r3, .slice o3 l3 c3]) q) (hl : Nm cur (.agg #[.bool r4, .slice o4 l4 c4]) l) (hb : Below K W cur) (h4 : K ≤ X4) (h5 : K ≤ X5) :
    Vr ((((cur.setCell ⟨X4, 0, none⟩ (.bool r3)).setCell ⟨X4, 1, none⟩ (.slice o3 l3 c3)).setCell ⟨X5, 0, none⟩ (.bool r4)).setCell ⟨X5, 1, none⟩ (.slice o4 l4 c4)) X4 q ∧
    Vr ((((cur.setCell ⟨X4, 0, none⟩ (.bool r3)).setCell ⟨X4, 1, none⟩ (.slice o3 l3 c3)).setCell ⟨X5, 0, none⟩ (.bool r4)).setCell ⟨X5, 1, none⟩ (.slice o4 l4 c4)) X5 l ∧
    Below K W ((((cur.setCell ⟨X4, 0, none⟩ (.bool r3)).setCell ⟨X4, 1, none⟩ (.slice o3 l3 c3)).setCell ⟨X5, 0, none⟩ (.bool r4)).setCell ⟨X5, 1, none⟩ (.slice o4 l4 c4)) :=
  ⟨(fin2 k4 k5 hne hq hl).1, (fin2 k4 k5 hne hq hl).2, keep2 (keep2 hb h4 _ _) h5 _ _⟩
theorem turn3 {a b c : Prop} (h : b ∧ a ∧ c) : a ∧ b ∧ c := ⟨h.2.1, h.1, h.2.2⟩
theorem Bk.new' (w : World) (x y : Value) (o : Obj) : Bk ((w.alloc o).alloc (.cells #[x, y] 53)) (w.heap.size + 1) x y := by simpa using Bk.new (w.alloc o) x y

theorem Bk.drew {w : World} {b : Nat} {x y : Value} (h : Bk w b x y) : Bk w.drew b x y := h

/-- Two cells, and that nothing of W has turned. -/
abbrev S2 (a0 a1 : Addr) (x0 x1 : Value) (W : World) (w : World) : Prop := w.cell? a0 = some x0 ∧ w.cell? a1 = some x1 ∧ Below W.heap.size W w
theorem S2.call {a0 a1 : Addr} {x0 x1 : Value} {W w w' : World} (h : S2 a0 a1 x0 x1 W w) (g : Below w.heap.size w w') : S2 a0 a1 x0 x1 W w' :=
  ⟨below_cell h.1 g, below_cell h.2.1 g, h.2.2.trans (g.mono h.2.2.size)⟩
theorem S2.drew {a0 a1 : Addr} {x0 x1 : Value} {W w : World} (h : S2 a0 a1 x0 x1 W w) : S2 a0 a1 x0 x1 W w.drew := ⟨h.1, h.2.1, h.2.2.drew⟩
theorem S2.alloc {a0 a1 : Addr} {x0 x1 : Value} {W w : World} (h : S2 a0 a1 x0 x1 W w) (o : Obj) : S2 a0 a1 x0 x1 W (w.alloc o) := h.call ((Gr.refl _).alloc _).below
theorem S2.set {a0 a1 : Addr} {x0 x1 : Value} {W w : World} (h : S2 a0 a1 x0 x1 W w) {p : Addr} (hp : W.heap.size ≤ p.block) (h0 : a0.block < W.heap.size) (h1 : a1.block < W.heap.size) (z : Value) : S2 a0 a1 x0 x1 W (w.setCell p z) :=
  ⟨(World.cell?_setCell_far w p a0 z (by omega)).trans h.1, (World.cell?_setCell_far w p a1 z (by omega)).trans h.2.1, h.2.2.setCell hp z⟩

theorem Nm.sign {w : World} {r : Bool} {sl : Value} {n : Int} (h : Nm w (.agg #[.bool r, sl]) n) : r = decide (n < 0) := by
  obtain ⟨ao, cap, l, e, hR, hnn, hv⟩ := h
  simp only [Value.agg.injEq, Array.mk.injEq, List.cons.injEq, and_true, Value.bool.injEq] at e
  exact e.1
theorem Nm.len0 {w : World} {r : Bool} {o : Option Addr} {ln c : Nat} {n : Int} (h : Nm w (.agg #[.bool r, .slice o ln c]) n) : ln = 0 ↔ n = 0 := by
  obtain ⟨ao, cap, l, e, hR, hnn, hv⟩ := h
  simp only [Value.agg.injEq, Array.mk.injEq, List.cons.injEq, and_true, Value.slice.injEq] at e
  have hz := nrm_zero (allD_of hR.dig) hnn
  rw [e.2.2.1]
  constructor
  · intro h0; have := hz.2 (List.eq_nil_of_length_eq_zero h0); omega
  · intro h0; rw [hz.1 (by omega)]; rfl
theorem mod_neg {n P : Int} (hP : 0 < P) (h : n < 0) (h0 : ((n.natAbs : Int)) % P ≠ 0) : P - (n.natAbs : Int) % P = n % P := by
  have e : n = -(n.natAbs : Int) := by omega
  generalize (n.natAbs : Int) = A at *
  subst e
  have h1 := Int.mul_ediv_add_emod A P
  have h2 := Int.emod_lt_of_pos A hP
  have h3 := Int.emod_nonneg A (show P ≠ 0 by omega)
  exact ((Int.ediv_emod_unique hP (a := -A) (r := P - A % P) (q := -(A / P) - 1)).2 ⟨by generalize A / P = q at *; generalize A % P = r at *; grind, by omega, by omega⟩).2.symm
theorem mod_pos {n P : Int} (h : ¬ (n < 0 ∧ (n.natAbs : Int) % P ≠ 0)) : (n.natAbs : Int) % P = n % P := by
  by_cases hn : n < 0
  · have h0 : (n.natAbs : Int) % P = 0 := by
      apply Classical.byContradiction; intro hc; exact h ⟨hn, hc⟩
    have e : (n.natAbs : Int) = -n := by omega
    rw [h0]
    rw [e] at h0
    have := Int.dvd_of_emod_eq_zero h0
    exact (Int.emod_eq_zero_of_dvd (Int.dvd_neg.1 this)).symm
  · have e : (n.natAbs : Int) = n := by omega
    rw [e]
theorem round_words (n : Int) : wrap64 (n % p2 128 / p2 64) = hiI n ∧ n % p2 128 % p2 64 = loI n := by
  rw [p2_128, p2_64]; unfold wrap64 hiI loI; omega

theorem round_bd (n : Int) : 0 ≤ n % p2 128 / p2 64 ∧ n % p2 128 / p2 64 ≤ 18446744073709551615 ∧ 0 ≤ n % p2 128 % p2 64 ∧ n % p2 128 % p2 64 ≤ 18446744073709551615 := by
  rw [p2_128, p2_64]; omega

set_option maxRecDepth 20000 in
set_option maxHeartbeats 4000000 in
theorem round_num (x : Value) (n : Int) (w : World) (hx : Nm w x n) (h0 : -p2 6000 < n) (h1 : n < p2 6000) :
    Calls Try.prog 102 #[x] w fun e w' => e = .returned (.tuple #[.int .i64 (hiI n), .int .u64 (loI n)]) ∧ Below w.heap.size w w' := by
  obtain ⟨s, ao, la, ca, rfl, hx'⟩ := hx.shape
  have k0 := Bk.new w (.bool s) (.slice ao la ca)
  have hb0 : Below w.heap.size w (w.alloc (.cells #[.bool s, .slice ao la ca] 53)) := ((Gr.refl _).alloc _).below
  have hX := hx'.out.mono hb0
  have hA : Hid (Nm (w.alloc (.cells #[.bool s, .slice ao la ca] 53)) (.agg #[.bool false, .slice ao la ca]) n.natAbs) := hX.abs
  have hsign : Hid (s = decide (n < 0)) := hX.sign
  clear hx hx' hX
  go_enter Try.func102, Try.ntmps102
  go_wp2
  generalize w.alloc (.cells #[.bool s, .slice ao la ca] 53) = W at *
  have c0 := k0.c0
  have c1 := k0.c1
  have hB : n.natAbs < p2 6000 := by omega
  have h128 : p2 128 < p2 6000 := by have := big_6000; have := p2_128; omega
  have p128 := p2_pos 128
  go_cut [4, 5] (fun s4 s5 w' => ∃ X4 X5, s4 = .pointer (some ⟨X4, 0, none⟩) ∧ s5 = .pointer (some ⟨X5, 0, none⟩) ∧ W.heap.size ≤ X4 ∧ W.heap.size ≤ X5 ∧ X4 ≠ X5 ∧ Vr w' X4 (n.natAbs / p2 128) ∧ Vr w' X5 (n.natAbs % p2 128) ∧ Below W.heap.size W w')
  case first =>
    have hlt := k0.lt
    have hS0 : Hid (S2 ⟨w.heap.size, 0, none⟩ ⟨w.heap.size, 1, none⟩ (.bool s) (.slice ao la ca) W W.drew) := ⟨c0, c1, (Below.refl _ _).drew⟩
    have hSW : Hid (S2 ⟨w.heap.size, 0, none⟩ ⟨w.heap.size, 1, none⟩ (.bool s) (.slice ao la ca) W W) := ⟨c0, c1, Below.refl _ _⟩
    go_region_held3 (S2 ⟨w.heap.size, 0, none⟩ ⟨w.heap.size, 1, none⟩ (.bool s) (.slice ao la ca) W)
      (repeat (first | with_reducible exact hS3.out | with_reducible exact hS2.out | with_reducible exact hS0.out | with_reducible exact hSW.out | with_reducible refine S2.drew ?_ | with_reducible refine S2.alloc ?_ _ | (with_reducible refine S2.set ?_ (by simp only []; omega) (by simp only []; omega) (by simp only []; omega) _)))
      (first
        | (go_at_call 120; refine (power_num 128 _ (by omega)).mono ?_; rintro e w2 ⟨z, rfl, hz2, hb2⟩; obtain ⟨r2, o2, l2, c2, rfl, hz2'⟩ := hz2.shape; clear hz2; have sz2 := hb2.size; have hS2 : Hid (S2 ⟨w.heap.size, 0, none⟩ ⟨w.heap.size, 1, none⟩ (.bool s) (.slice ao la ca) W w2) := S2.call (by assumption) hb2; have sz2' : W.heap.size ≤ w2.heap.size := hS2.out.2.2.size; first
            | (have a1 := ((Bk.new W (.bool false) (.slice none 0 0)).alloc (.cells #[.bool false, .slice none 0 0] 53)).drew.mono hb2 (by simp only [World.size_drew, World.size_alloc]; omega); have a2 := (Bk.new' W (.bool false) (.slice none 0 0) (.cells #[.bool false, .slice none 0 0] 53)).drew.mono hb2 (by simp only [World.size_drew, World.size_alloc]; omega))
            | (have a1 := (Bk.new W (.bool false) (.slice none 0 0)).drew.mono hb2 (by simp only [World.size_drew, World.size_alloc]; omega))
            | skip)
        | (go_at_call 119; refine (div_num _ _ (n.natAbs) (p2 128) _ ?_ ?_ (by omega) p128 hB h128).mono ?_; exact hA.out.mono (by assumption : S2 ⟨w.heap.size, 0, none⟩ ⟨w.heap.size, 1, none⟩ (.bool s) (.slice ao la ca) W _).2.2; (first | exact hz2'.out | exact hz2'.out.mono ((Gr.refl _).alloc _).below | exact hz2'.out.mono (below2 _ _ _)); rintro e w3 ⟨z1, z2, rfl, hq, hl, hb3⟩; obtain ⟨r3, o3, l3, c3, rfl, hq'⟩ := hq.shape; obtain ⟨r4, o4, l4, c4, rfl, hl'⟩ := hl.shape; clear hq hl; have sz3 := hb3.size; have hS3 : Hid (S2 ⟨w.heap.size, 0, none⟩ ⟨w.heap.size, 1, none⟩ (.bool s) (.slice ao la ca) W w3) := S2.call (by assumption) hb3; have sz3' : W.heap.size ≤ w3.heap.size := hS3.out.2.2.size; first
            | (have p1 := a1.mono hb3 a1.lt; have p3 := a2.mono hb3 a2.lt; have e0 := p1.c0; have e1 := p1.c1; have e2 := p1.f0; have e3 := p1.f1; have e4 := p1.lt; have f0 := p3.c0; have f1 := p3.c1; have f2 := p3.f0; have f3 := p3.f1; have f4 := p3.lt)
            | (have ne1 := Nat.ne_of_lt a1.lt; have ne2 := ne1.symm; have p1 := (a1.alloc (.cells #[.bool false, .slice none 0 0] 53)).mono hb3 (Nat.lt_of_lt_of_le a1.lt (by simp only [World.size_alloc]; omega)); have p3 := (Bk.new w2 (.bool false) (.slice none 0 0)).mono hb3 (by simp only [World.size_alloc]; omega); have e0 := p1.c0; have e1 := p1.c1; have e2 := p1.f0; have e3 := p1.f1; have e4 := p1.lt; have f0 := p3.c0; have f1 := p3.c1; have f2 := p3.f0; have f3 := p3.f1; have f4 := p3.lt)
            | (have p1 := a1.mono hb3 a1.lt; have e0 := p1.c0; have e1 := p1.c1; have e2 := p1.f0; have e3 := p1.f1; have e4 := p1.lt)
            | (have p1 := ((Bk.new w2 (.bool false) (.slice none 0 0)).alloc (.cells #[.bool false, .slice none 0 0] 53)).mono hb3 (by simp only [World.size_alloc]; omega); have p3 := (Bk.new' w2 (.bool false) (.slice none 0 0) (.cells #[.bool false, .slice none 0 0] 53)).mono hb3 (by simp only [World.size_alloc]; omega); have e0 := p1.c0; have e1 := p1.c1; have e2 := p1.f0; have e3 := p1.f1; have e4 := p1.lt; have f0 := p3.c0; have f1 := p3.c1; have f2 := p3.f0; have f3 := p3.f1; have f4 := p3.lt)
            | (have p1 := (Bk.new w2 (.bool false) (.slice none 0 0)).mono hb3 (by simp only [World.size_alloc]; omega); have e0 := p1.c0; have e1 := p1.c1; have e2 := p1.f0; have e3 := p1.f1; have e4 := p1.lt)
            | skip))
    all_goals
      go_wp2
      go_meet
      case rel =>
        have hbW := hS3.out.2.2
        refine ⟨_, _, rfl, rfl, ?_, ?_, ?_, ?_⟩
        · omega
        · omega
        · omega
        · first
            | with_reducible exact finA hq'.out hl'.out hbW sz3'
            | with_reducible exact turn3 (finA hl'.out hq'.out hbW sz3')
            | with_reducible exact finB p1 hq'.out hl'.out hbW (by omega)
            | with_reducible exact turn3 (finB p1 hl'.out hq'.out hbW (by omega))
            | with_reducible exact finC p1 p3 (by omega) hq'.out hl'.out hbW (by omega) (by omega)
            | with_reducible exact finC p3 p1 (by omega) hq'.out hl'.out hbW (by omega) (by omega)
  case rest =>
    obtain ⟨X4, X5, rfl, rfl, h4, h5, hne, v4, v5, hbl⟩ := hcut
    have hs := hsign
    have hk := k0.mono hbl k0.lt
    have c0' := hk.c0
    have hX := k0.lt
    clear c0 c1 v4
    obtain ⟨lr, lo, ll, lc, kl, hl⟩ := v5
    have y1 := kl.c1
    have hz := hl.len0
    go_upto_region 2 with fail
    go_cut [23] (fun s23 w' => s23 = .bool (decide (n < 0 ∧ (n.natAbs : Int) % p2 128 ≠ 0)) ∧ w' = wc)
    case first =>
      by_cases hT : n < 0 ∧ (n.natAbs : Int) % p2 128 ≠ 0
      · obtain rfl : s = true := by rw [hs.out]; simp [hT.1]
        have hll : 0 < ll := by have := fun e => hT.2 (hz.1 e); omega
        have HT : Hid (decide (n < 0 ∧ (n.natAbs : Int) % p2 128 ≠ 0) = true) := by unfold Hid; simp [hT]
        clear hT hz hs hsign
        go_wp2
        go_meet
        case rel => exact ⟨by rw [HT.out], rfl⟩
      · have HT : Hid (decide (n < 0 ∧ (n.natAbs : Int) % p2 128 ≠ 0) = false) := decide_eq_false hT
        by_cases hn0 : n < 0
        · obtain rfl : s = true := by rw [hs.out]; simp [hn0]
          have hll : ll = 0 := hz.2 (by apply Classical.byContradiction; intro hc; exact hT ⟨hn0, hc⟩)
          subst hll
          clear hT hz hs hsign
          go_wp2
          go_meet
          case rel => exact ⟨by rw [HT.out], rfl⟩
        · obtain rfl : s = false := by rw [hs.out]; simp [hn0]
          clear hT hz hs hsign
          go_wp2
          go_meet
          case rel => exact ⟨by rw [HT.out], rfl⟩
    case rest =>
      obtain ⟨rfl, rfl⟩ := hcut
      clear hz y1 c0'
      have v5 : Vr wc X5 ((n.natAbs : Int) % p2 128) := ⟨lr, lo, ll, lc, kl, hl⟩
      clear kl hl
      generalize hT : decide (n < 0 ∧ (n.natAbs : Int) % p2 128 ≠ 0) = T
      have HT : Hid (decide (n < 0 ∧ (n.natAbs : Int) % p2 128 ≠ 0) = T) := hT
      clear hT
      go_upto_if 23 with fail
      go_cut [] (fun w' => Vr w' X5 (n % p2 128) ∧ Below W.heap.size W w')
      case first =>
        cases T with
        | false =>
          have hT := mod_pos (P := p2 128) (of_decide_eq_false HT.out)
          rw [hT] at v5
          have V : Hid _ := v5
          clear v5 hT
          go_wp2
          go_meet
          case rel => exact ⟨V.out, hbl⟩
        | true =>
          have hT := of_decide_eq_true HT.out
          have hm := mod_neg p128 hT.1 hT.2
          have hm1 := Int.emod_lt_of_pos (n.natAbs : Int) p128
          have hm0 := Int.emod_nonneg (n.natAbs : Int) (show p2 128 ≠ 0 by omega)
          have HM : Hid (p2 128 - (n.natAbs : Int) % p2 128 = n % p2 128) := hm
          clear hT hm hs hsign
          obtain ⟨pr, po, pl, pc, kv, hv⟩ := v5
          generalize (n.natAbs : Int) % p2 128 = R at *
          have e0 := kv.c0
          have e1 := kv.c1
          have HV : Hid (Nm wc (.agg #[.bool pr, .slice po pl pc]) R) := hv
          clear hv HT
          go_wp2
          go_region_with (first
            | (go_at_call 120; refine (power_num 128 _ (by omega)).mono ?_; rintro e w5 ⟨z, rfl, hz, hb2⟩; replace hb2 := drewB hb2; obtain ⟨r7, o7, l7, c7, rfl, hz'⟩ := hz.shape; clear hz; have k7 := kv.mono hb2 kv.lt; have d0 := k7.c0; have d1 := k7.c1)
            | (go_at_call 118; refine (less_num _ _ (p2 128) R _ hz'.out (HV.out.mono hb2) hm0 (Int.le_of_lt hm1)).mono ?_; rintro e w6 ⟨z, rfl, hz, hb3⟩; obtain ⟨r8, o8, l8, c8, rfl, hz2⟩ := hz.shape; clear hz; have k8 := k7.mono hb3 k7.lt; have e0' := k8.c0; have e1' := k8.c1; have e2' := k8.f0; have e3' := k8.f1; have hb5 : Below wc.heap.size wc w6 := hb2.trans (hb3.mono hb2.size)))
          all_goals
            go_wp2
            go_meet
            case rel => exact ⟨by rw [← HM.out]; exact Vr.put k8 hz2.out, keep2 (hbl.trans (hb5.mono hbl.size)) h5 _ _⟩
      case rest =>
        clear v5 hbl hk hs hsign HT
        obtain ⟨v5, hbl⟩ := hcut
        obtain ⟨lr, lo, ll, lc, kl, hl⟩ := v5
        have c0 := kl.c0
        have c1 := kl.c1
        have hL : Hid (Nm wc (.agg #[.bool lr, .slice lo ll lc]) (n % p2 128)) := hl
        have r0 := Int.emod_nonneg n (show p2 128 ≠ 0 by omega)
        have r2' := Int.emod_lt_of_pos n p128
        have r1 : n % p2 128 < p2 6000 := by omega
        have h64 : p2 64 < p2 6000 := by have := p2_mono (j := 64) (k := 128) (by omega); omega
        have p64 := p2_pos 64
        clear hl
        go_upto_region 4 with fail
        go_cut [6, 7] (fun s4 s5 w' => ∃ X6 X7, s4 = .pointer (some ⟨X6, 0, none⟩) ∧ s5 = .pointer (some ⟨X7, 0, none⟩) ∧ wc.heap.size ≤ X6 ∧ wc.heap.size ≤ X7 ∧ X6 ≠ X7 ∧ Vr w' X6 (n % p2 128 / p2 64) ∧ Vr w' X7 (n % p2 128 % p2 64) ∧ Below wc.heap.size wc w')
        case first =>
          have hlt := kl.lt
          have hS0 : Hid (S2 ⟨X5, 0, none⟩ ⟨X5, 1, none⟩ (.bool lr) (.slice lo ll lc) wc wc.drew) := ⟨c0, c1, (Below.refl _ _).drew⟩
          have hSW : Hid (S2 ⟨X5, 0, none⟩ ⟨X5, 1, none⟩ (.bool lr) (.slice lo ll lc) wc wc) := ⟨c0, c1, Below.refl _ _⟩
          go_region_held3 (S2 ⟨X5, 0, none⟩ ⟨X5, 1, none⟩ (.bool lr) (.slice lo ll lc) wc)
            (repeat (first | with_reducible exact hS3.out | with_reducible exact hS2.out | with_reducible exact hS0.out | with_reducible exact hSW.out | with_reducible refine S2.drew ?_ | with_reducible refine S2.alloc ?_ _ | (with_reducible refine S2.set ?_ (by simp only []; omega) (by simp only []; omega) (by simp only []; omega) _)))
            (first
              | (go_at_call 120; refine (power_num 64 _ (by omega)).mono ?_; rintro e w8 ⟨z, rfl, hz2, hb2⟩; obtain ⟨r2, o2, l2, c2, rfl, hz2'⟩ := hz2.shape; clear hz2; have sz2 := hb2.size; have hS2 : Hid (S2 ⟨X5, 0, none⟩ ⟨X5, 1, none⟩ (.bool lr) (.slice lo ll lc) wc w8) := S2.call (by assumption) hb2; have sz2' : wc.heap.size ≤ w8.heap.size := hS2.out.2.2.size; first
                  | (have a1 := ((Bk.new wc (.bool false) (.slice none 0 0)).alloc (.cells #[.bool false, .slice none 0 0] 53)).drew.mono hb2 (by simp only [World.size_drew, World.size_alloc]; omega); have a2 := (Bk.new' wc (.bool false) (.slice none 0 0) (.cells #[.bool false, .slice none 0 0] 53)).drew.mono hb2 (by simp only [World.size_drew, World.size_alloc]; omega))
                  | (have a1 := (Bk.new wc (.bool false) (.slice none 0 0)).drew.mono hb2 (by simp only [World.size_drew, World.size_alloc]; omega))
                  | skip)
              | (go_at_call 119; refine (div_num _ _ (n % p2 128) (p2 64) _ ?_ ?_ r0 p64 r1 h64).mono ?_; exact hL.out.mono (by assumption : S2 ⟨X5, 0, none⟩ ⟨X5, 1, none⟩ (.bool lr) (.slice lo ll lc) wc _).2.2; (first | exact hz2'.out | exact hz2'.out.mono ((Gr.refl _).alloc _).below | exact hz2'.out.mono (below2 _ _ _)); rintro e w9 ⟨z1, z2, rfl, hq, hl, hb3⟩; obtain ⟨r3, o3, l3, c3, rfl, hq'⟩ := hq.shape; obtain ⟨r4, o4, l4, c4, rfl, hl'⟩ := hl.shape; clear hq hl; have sz3 := hb3.size; have hS3 : Hid (S2 ⟨X5, 0, none⟩ ⟨X5, 1, none⟩ (.bool lr) (.slice lo ll lc) wc w9) := S2.call (by assumption) hb3; have sz3' : wc.heap.size ≤ w9.heap.size := hS3.out.2.2.size; first
                  | (have p1 := a1.mono hb3 a1.lt; have p3 := a2.mono hb3 a2.lt; have e0 := p1.c0; have e1 := p1.c1; have e2 := p1.f0; have e3 := p1.f1; have e4 := p1.lt; have f0 := p3.c0; have f1 := p3.c1; have f2 := p3.f0; have f3 := p3.f1; have f4 := p3.lt)
                  | (have ne1 := Nat.ne_of_lt a1.lt; have ne2 := ne1.symm; have p1 := (a1.alloc (.cells #[.bool false, .slice none 0 0] 53)).mono hb3 (Nat.lt_of_lt_of_le a1.lt (by simp only [World.size_alloc]; omega)); have p3 := (Bk.new w8 (.bool false) (.slice none 0 0)).mono hb3 (by simp only [World.size_alloc]; omega); have e0 := p1.c0; have e1 := p1.c1; have e2 := p1.f0; have e3 := p1.f1; have e4 := p1.lt; have f0 := p3.c0; have f1 := p3.c1; have f2 := p3.f0; have f3 := p3.f1; have f4 := p3.lt)
                  | (have p1 := a1.mono hb3 a1.lt; have e0 := p1.c0; have e1 := p1.c1; have e2 := p1.f0; have e3 := p1.f1; have e4 := p1.lt)
                  | (have p1 := ((Bk.new w8 (.bool false) (.slice none 0 0)).alloc (.cells #[.bool false, .slice none 0 0] 53)).mono hb3 (by simp only [World.size_alloc]; omega); have p3 := (Bk.new' w8 (.bool false) (.slice none 0 0) (.cells #[.bool false, .slice none 0 0] 53)).mono hb3 (by simp only [World.size_alloc]; omega); have e0 := p1.c0; have e1 := p1.c1; have e2 := p1.f0; have e3 := p1.f1; have e4 := p1.lt; have f0 := p3.c0; have f1 := p3.c1; have f2 := p3.f0; have f3 := p3.f1; have f4 := p3.lt)
                  | (have p1 := (Bk.new w8 (.bool false) (.slice none 0 0)).mono hb3 (by simp only [World.size_alloc]; omega); have e0 := p1.c0; have e1 := p1.c1; have e2 := p1.f0; have e3 := p1.f1; have e4 := p1.lt)
                  | skip))
          all_goals
            go_wp2
            go_meet
            case rel =>
              have hbW := hS3.out.2.2
              refine ⟨_, _, rfl, rfl, ?_, ?_, ?_, ?_⟩
              · omega
              · omega
              · omega
              · first
                  | with_reducible exact finA hq'.out hl'.out hbW sz3'
                  | with_reducible exact turn3 (finA hl'.out hq'.out hbW sz3')
                  | with_reducible exact finB p1 hq'.out hl'.out hbW (by omega)
                  | with_reducible exact turn3 (finB p1 hl'.out hq'.out hbW (by omega))
                  | with_reducible exact finC p1 p3 (by omega) hq'.out hl'.out hbW (by omega) (by omega)
                  | with_reducible exact finC p3 p1 (by omega) hq'.out hl'.out hbW (by omega) (by omega)
        case rest =>
          have hb0W : Below w.heap.size w _ := hb0.trans (hbl.mono hb0.size)
          clear kl c0 c1 hL r1 h64 p64 r2' r0
          obtain ⟨X6, X7, rfl, rfl, h6, h7, hne7, v6, v7, hbl7⟩ := hcut
          have hbf := hb0W.trans (hbl7.mono hb0W.size)
          obtain ⟨q0, q1, l0, l1⟩ := round_bd n
          obtain ⟨HQ, HL⟩ := round_words n
          generalize n % p2 128 / p2 64 = q at *
          generalize n % p2 128 % p2 64 = l at *
          have HQ' : Hid (wrap64 q = hiI n) := HQ
          have HL' : Hid (l = loI n) := HL
          clear HQ HL
          obtain ⟨r6, o6, l6, c6, k6, n6⟩ := v6
          obtain ⟨r7, o7, l7, c7, k7, n7⟩ := v7
          have s1 := cell_grown k6.lt k6.c0
          have s2 := cell_grown k6.lt k6.c1
          have s3 := cell_grown k7.lt k7.c0
          have s4 := cell_grown k7.lt k7.c1
          have N6 : Hid (∀ a b, Nm (grow (World.drewN _ a) b) (.agg #[.bool r6, .slice o6 l6 c6]) q) := fun a b => n6.mono (Gr.below ⟨a, b, rfl⟩)
          have N7 : Hid (∀ a b, Nm (grow (World.drewN _ a) b) (.agg #[.bool r7, .slice o7 l7 c7]) l) := fun a b => n7.mono (Gr.below ⟨a, b, rfl⟩)
          clear n6 n7 k6 k7
          go_upto_region 5 with fail
          refine wp_region_quiet_grown (by kernel_rfl) (by kernel_rfl) ?_
          repeat (go_big_quiet_step (first
            | (go_at_call_of 121 (Value.slice o6 l6 c6); refine Calls.grown_of (word_num _ q _ (N6.out _ _) q0 q1))
            | (go_at_call_of 121 (Value.slice o7 l7 c7); refine Calls.grown_of (word_num _ l _ (N7.out _ _) l0 l1))))
          refine wpQuiet_nil ?_
          intro _ hw'
          obtain ⟨⟨nq, osq⟩, hw''⟩ := hw'
          subst hw''
          have hbg := hbf.trans ((Gr.below ⟨nq, osq, rfl⟩).mono hbf.size)
          clear s1 s2 s3 s4 N6 N7
          go_wp2
          go_ret2
          exact ⟨by rw [← HQ'.out, ← HL'.out]; rfl, hbg⟩
end
end Go.Proofs.Ytljdnahomhbenaa
