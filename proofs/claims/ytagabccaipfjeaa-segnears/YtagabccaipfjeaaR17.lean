/- Contract of the reference's oneLine. -/
import Derived.Test.YtagabccaipfjeaaRefQ
import Derived.Test.YtagabccaipfjeaaR15
import Derived.Deep.CutBlock
namespace Go.Proofs.Ytagabccaipfjeaa
open Go.RowKit Go.Sort

/-- A fraction in a block of its own. -/
def Vq (w : World) (b : Nat) (n d : Int) : Prop := ∃ r o l c R O M C, Q4 w b (.bool r) (.slice o l c) (.bool R) (.slice O M C) ∧ Rt w (.agg #[.bool r, .slice o l c, .bool R, .slice O M C]) n d 4
theorem Vq.mono {w w' : World} {b : Nat} {n d : Int} (h : Vq w b n d) (g : Below w.heap.size w w') : Vq w' b n d := by
  obtain ⟨r, o, l, c, R, O, M, C, h1, h2⟩ := h
  exact ⟨r, o, l, c, R, O, M, C, h1.mono g h1.lt, h2.mono g⟩
theorem Vq.lt {w : World} {b : Nat} {n d : Int} (h : Vq w b n d) : b < w.heap.size := by
  obtain ⟨r, o, l, c, R, O, M, C, h1, h2⟩ := h
  exact h1.lt
theorem Vq.put {w : World} {b : Nat} {n d : Int} {x0 x1 x2 x3 : Value} {r : Bool} {o : Option Addr} {l c : Nat} {R : Bool} {O : Option Addr} {M C : Nat} (h : Q4 w b x0 x1 x2 x3) (k : Rt w (.agg #[.bool r, .slice o l c, .bool R, .slice O M C]) n d 4) : Vq ((((w.setCell ⟨b, 0, none⟩ (.bool r)).setCell ⟨b, 1, none⟩ (.slice o l c)).setCell ⟨b, 2, none⟩ (.bool R)).setCell ⟨b, 3, none⟩ (.slice O M C)) b n d :=
  ⟨r, o, l, c, R, O, M, C, (((h.s0 _).s1 _).s2 _).s3 _, k.setQ h _ _ _ _⟩
theorem Vq.keep {w : World} {b e : Nat} {n d : Int} {x0 x1 x2 x3 : Value} (h : Vq w b n d) (k : Q4 w e x0 x1 x2 x3) (ne : b ≠ e) (y0 y1 y2 y3 : Value) : Vq ((((w.setCell ⟨e, 0, none⟩ y0).setCell ⟨e, 1, none⟩ y1).setCell ⟨e, 2, none⟩ y2).setCell ⟨e, 3, none⟩ y3) b n d := by
  obtain ⟨r, o, l, c, R, O, M, C, h1, h2⟩ := h
  exact ⟨r, o, l, c, R, O, M, C, (((h1.other ne _).other ne _).other ne _).other ne _, h2.setQ k _ _ _ _⟩
/-- What oneLine has in memory: two fractions, its answer's block. -/
structure Ol (K : Nat) (w0 w : World) (A B R : Nat) (n d N D : Int) : Prop where
  a : Vq w A n d
  b : Vq w B N D
  r : M6 w R (.int .u8 0) (.bool false) (.int .i64 0) (.int .i64 0) (.int .i64 0) (.int .i64 0)
  g : Below K w0 w
  ab : A ≠ B
  ra : R ≠ A
  rb : R ≠ B
  la : K ≤ A
  lb : K ≤ B
  lr : K ≤ R
theorem Ol.mono {K : Nat} {w0 w w' : World} {A B R : Nat} {n d N D : Int} (h : Ol K w0 w A B R n d N D) (g : Below w.heap.size w w') : Ol K w0 w' A B R n d N D :=
  ⟨h.a.mono g, h.b.mono g, h.r.mono g h.r.lt, h.g.trans (g.mono (Nat.le_trans h.la (Nat.le_of_lt h.a.lt))), h.ab, h.ra, h.rb, h.la, h.lb, h.lr⟩
theorem Ol.drew {K : Nat} {w0 w : World} {A B R : Nat} {n d N D : Int} (h : Ol K w0 w A B R n d N D) : Ol K w0 w.drew A B R n d N D :=
  h.mono (Below.refl _ _).drew
theorem Ol.putA {K : Nat} {w0 w : World} {A B R : Nat} {n d N D n' d' : Int} {r : Bool} {o : Option Addr} {l c : Nat} {R' : Bool} {O : Option Addr} {M C : Nat} (h : Ol K w0 w A B R n d N D) (k : Rt w (.agg #[.bool r, .slice o l c, .bool R', .slice O M C]) n' d' 4) : Ol K w0 ((((w.setCell ⟨A, 0, none⟩ (.bool r)).setCell ⟨A, 1, none⟩ (.slice o l c)).setCell ⟨A, 2, none⟩ (.bool R')).setCell ⟨A, 3, none⟩ (.slice O M C)) A B R n' d' N D := by
  obtain ⟨_, _, _, _, _, _, _, _, q, _⟩ := h.a
  exact ⟨Vq.put q k, h.b.keep q (Ne.symm h.ab) _ _ _ _, (((h.r.other h.ra _).other h.ra _).other h.ra _).other h.ra _, (((h.g.setCell h.la _).setCell h.la _).setCell h.la _).setCell h.la _, h.ab, h.ra, h.rb, h.la, h.lb, h.lr⟩
theorem Ol.putB {K : Nat} {w0 w : World} {A B R : Nat} {n d N D n' d' : Int} {r : Bool} {o : Option Addr} {l c : Nat} {R' : Bool} {O : Option Addr} {M C : Nat} (h : Ol K w0 w A B R n d N D) (k : Rt w (.agg #[.bool r, .slice o l c, .bool R', .slice O M C]) n' d' 4) : Ol K w0 ((((w.setCell ⟨B, 0, none⟩ (.bool r)).setCell ⟨B, 1, none⟩ (.slice o l c)).setCell ⟨B, 2, none⟩ (.bool R')).setCell ⟨B, 3, none⟩ (.slice O M C)) A B R n d n' d' := by
  obtain ⟨_, _, _, _, _, _, _, _, q, _⟩ := h.b
  exact ⟨h.a.keep q h.ab _ _ _ _, Vq.put q k, (((h.r.other h.rb _).other h.rb _).other h.rb _).other h.rb _, (((h.g.setCell h.lb _).setCell h.lb _).setCell h.lb _).setCell h.lb _, h.ab, h.ra, h.rb, h.la, h.lb, h.lr⟩
theorem Ol.to {K : Nat} {w0 w : World} {A B R : Nat} {n d N D n' d' N' D' : Int} (h : Ol K w0 w A B R n d N D) (e1 : n = n') (e2 : d = d') (e3 : N = N') (e4 : D = D') : Ol K w0 w A B R n' d' N' D' := by
  subst e1; subst e2; subst e3; subst e4; exact h
theorem rfF_neg {D F : Int} (h : F < 0) : (rfF D F).1 = 0 ∧ (rfF D F).2 = 1 := by unfold rfF; rw [if_pos h]; exact ⟨rfl, rfl⟩
theorem rfF_pos {D F : Int} (h : ¬ F < 0) : (rfF D F).1 = F ∧ (rfF D F).2 = D := by unfold rfF; rw [if_neg h]; exact ⟨rfl, rfl⟩
theorem rfT_neg {D F : Int} (h : D < F) : (rfT D F).1 = 1 ∧ (rfT D F).2 = 1 := by unfold rfT; rw [if_pos h]; exact ⟨rfl, rfl⟩
theorem rfT_pos {D F : Int} (h : ¬ D < F) : (rfT D F).1 = F ∧ (rfT D F).2 = D := by unfold rfT; rw [if_neg h]; exact ⟨rfl, rfl⟩
theorem S8.al {A B : Nat} {x0 x1 x2 x3 y0 y1 y2 y3 : Value} {K : Nat} {W w : World} (h : S8 A B x0 x1 x2 x3 y0 y1 y2 y3 K W w) (hK : K ≤ W.heap.size) (o : Obj) : S8 A B x0 x1 x2 x3 y0 y1 y2 y3 K W (w.alloc o) := S8.call h hK ((Gr.refl _).alloc _).below
theorem S8.dr {A B : Nat} {x0 x1 x2 x3 y0 y1 y2 y3 : Value} {K : Nat} {W w : World} (h : S8 A B x0 x1 x2 x3 y0 y1 y2 y3 K W w) : S8 A B x0 x1 x2 x3 y0 y1 y2 y3 K W w.drew := ⟨h.1, h.2.1, h.2.2.1, h.2.2.2.1, h.2.2.2.2.1, h.2.2.2.2.2.1, h.2.2.2.2.2.2.1, h.2.2.2.2.2.2.2.1, h.2.2.2.2.2.2.2.2.drew⟩
set_option maxRecDepth 20000 in
set_option maxHeartbeats 4000000 in
theorem oneLine_any (a b c d : P2) (p q D : Int) (w : World) (ha : ins a) (hb : ins b) (hc : ins c) (hd : ins d) (hp : p = alN (alP a b c) (alD a b)) (hq : q = alN (alP a b d) (alD a b)) (hD : D = absI (alD a b)) (h0 : 0 < D) :
    Calls Try.prog 22 #[ptv a, ptv b, ptv c, ptv d] w fun e w' => e = .returned (mtv (refLine D (min p q) (max p q))) ∧ Below w.heap.size w w' := by
  have A1 := hid' (fun W => along_rt a b c W ha hb hc)
  have A2 := hid' (fun W => along_rt a b d W ha hb hd)
  have W1 := hid' (fun W => whole_rt 1 W (by omega) (by omega))
  have W0 := hid' (fun W => whole_rt 0 W (by omega) (by omega))
  rw [← hp, ← hD] at A1
  rw [← hq, ← hD] at A2
  have bp : Hid (p.natAbs ≤ 9223372036854775807 ∧ q.natAbs ≤ 9223372036854775807 ∧ D ≤ 9223372036854775807) := by
    unfold Hid
    unfold alN alP alD absI ins in32 at *
    refine ⟨?_, ?_, ?_⟩ <;> split at hp <;> split at hq <;> split at hD <;> simp_all <;> omega
  clear hp hq hD ha hb hc hd
  obtain ⟨ax, ay⟩ := a
  obtain ⟨bx, by_⟩ := b
  obtain ⟨cx, cy⟩ := c
  obtain ⟨dx, dy⟩ := d
  have hF : Below w.heap.size w (((((w.alloc (.cells #[.int .i32 ax, .int .i32 ay] 23)).alloc (.cells #[.int .i32 bx, .int .i32 by_] 23)).alloc (.cells #[.int .i32 cx, .int .i32 cy] 23)).alloc (.cells #[.int .i32 dx, .int .i32 dy] 23)).alloc (.cells #[.int .u8 0, .bool false, .int .i64 0, .int .i64 0, .int .i64 0, .int .i64 0] 30)) := ((((((Gr.refl _).alloc _).alloc _).alloc _).alloc _).alloc _).below
  have ta : TwoIs (((((w.alloc (.cells #[.int .i32 ax, .int .i32 ay] 23)).alloc (.cells #[.int .i32 bx, .int .i32 by_] 23)).alloc (.cells #[.int .i32 cx, .int .i32 cy] 23)).alloc (.cells #[.int .i32 dx, .int .i32 dy] 23)).alloc (.cells #[.int .u8 0, .bool false, .int .i64 0, .int .i64 0, .int .i64 0, .int .i64 0] 30)) w.heap.size ax ay := ⟨by go_simp, by go_simp⟩
  have tb : TwoIs (((((w.alloc (.cells #[.int .i32 ax, .int .i32 ay] 23)).alloc (.cells #[.int .i32 bx, .int .i32 by_] 23)).alloc (.cells #[.int .i32 cx, .int .i32 cy] 23)).alloc (.cells #[.int .i32 dx, .int .i32 dy] 23)).alloc (.cells #[.int .u8 0, .bool false, .int .i64 0, .int .i64 0, .int .i64 0, .int .i64 0] 30)) (w.heap.size + 1) bx by_ := ⟨by go_simp, by go_simp⟩
  have tc : TwoIs (((((w.alloc (.cells #[.int .i32 ax, .int .i32 ay] 23)).alloc (.cells #[.int .i32 bx, .int .i32 by_] 23)).alloc (.cells #[.int .i32 cx, .int .i32 cy] 23)).alloc (.cells #[.int .i32 dx, .int .i32 dy] 23)).alloc (.cells #[.int .u8 0, .bool false, .int .i64 0, .int .i64 0, .int .i64 0, .int .i64 0] 30)) (w.heap.size + 1 + 1) cx cy := ⟨by go_simp, by go_simp⟩
  have td : TwoIs (((((w.alloc (.cells #[.int .i32 ax, .int .i32 ay] 23)).alloc (.cells #[.int .i32 bx, .int .i32 by_] 23)).alloc (.cells #[.int .i32 cx, .int .i32 cy] 23)).alloc (.cells #[.int .i32 dx, .int .i32 dy] 23)).alloc (.cells #[.int .u8 0, .bool false, .int .i64 0, .int .i64 0, .int .i64 0, .int .i64 0] 30)) (w.heap.size + 1 + 1 + 1) dx dy := ⟨by go_simp, by go_simp⟩
  have hR : M6 (((((w.alloc (.cells #[.int .i32 ax, .int .i32 ay] 23)).alloc (.cells #[.int .i32 bx, .int .i32 by_] 23)).alloc (.cells #[.int .i32 cx, .int .i32 cy] 23)).alloc (.cells #[.int .i32 dx, .int .i32 dy] 23)).alloc (.cells #[.int .u8 0, .bool false, .int .i64 0, .int .i64 0, .int .i64 0, .int .i64 0] 30)) (w.heap.size + 1 + 1 + 1 + 1) (.int .u8 0) (.bool false) (.int .i64 0) (.int .i64 0) (.int .i64 0) (.int .i64 0) := by
    have := M6.new ((((w.alloc (.cells #[.int .i32 ax, .int .i32 ay] 23)).alloc (.cells #[.int .i32 bx, .int .i32 by_] 23)).alloc (.cells #[.int .i32 cx, .int .i32 cy] 23)).alloc (.cells #[.int .i32 dx, .int .i32 dy] 23)) (.int .u8 0) (.bool false) (.int .i64 0) (.int .i64 0) (.int .i64 0) (.int .i64 0)
    simpa using this
  obtain ⟨res, hres⟩ : ∃ res, res = refLine D (min p q) (max p q) := ⟨_, rfl⟩
  rw [← hres]
  replace hres := hid' hres
  show Calls Try.prog 22 #[pt ax ay, pt bx by_, pt cx cy, pt dx dy] w _
  go_enter Try.func22, Try.ntmps22
  go_wp2_with fail
  refine (A1.out _).mono ?_
  generalize (((((w.alloc (.cells #[.int .i32 ax, .int .i32 ay] 23)).alloc (.cells #[.int .i32 bx, .int .i32 by_] 23)).alloc (.cells #[.int .i32 cx, .int .i32 cy] 23)).alloc (.cells #[.int .i32 dx, .int .i32 dy] 23)).alloc (.cells #[.int .u8 0, .bool false, .int .i64 0, .int .i64 0, .int .i64 0, .int .i64 0] 30)) = W at *
  rintro e w1 ⟨z, rfl, hz, g1⟩
  obtain ⟨r1, o1, l1, c1, R1, O1, M1, C1, rfl, z1⟩ := hz.shape
  have y1 : Gr w1 (w1.alloc (.cells #[.bool r1, .slice o1 l1 c1, .bool R1, .slice O1 M1 C1] 53)) := (Gr.refl _).alloc _
  have s9 : w.heap.size ≤ w1.heap.size := Nat.le_trans hF.size g1.size
  have n9 : w.heap.size + 1 + 1 + 1 + 1 < w1.heap.size := Nat.lt_of_lt_of_le hR.lt g1.size
  have g1' := g1.trans (y1.below.mono g1.size)
  replace hF := hF.trans (g1'.mono hF.size)
  replace hR := hR.mono g1' hR.lt
  have a0 := below_cell ta.c0 g1'
  have a1 := below_cell ta.c1 g1'
  have b0 := below_cell tb.c0 g1'
  have b1 := below_cell tb.c1 g1'
  have d0 := below_cell td.c0 g1'
  have d1 := below_cell td.c1 g1'
  have v9 : Hid (Vq (w1.alloc (.cells #[.bool r1, .slice o1 l1 c1, .bool R1, .slice O1 M1 C1] 53)) w1.heap.size p D) := hid' ⟨_, _, _, _, _, _, _, _, Q4.new w1 (.bool r1) (.slice o1 l1 c1) (.bool R1) (.slice O1 M1 C1), z1.out.mono y1.below⟩
  clear hz g1 g1' y1 ta tb tc td A1 z1
  go_wp2_with fail
  generalize w1.alloc (.cells #[.bool r1, .slice o1 l1 c1, .bool R1, .slice O1 M1 C1] 53) = Y1 at *
  have m9 : w1.heap.size < Y1.heap.size := v9.out.lt
  generalize w1.heap.size = X9 at *
  refine (A2.out _).mono ?_
  rintro e w2 ⟨z, rfl, hz, g2⟩
  obtain ⟨r2, o2, l2, c2, R2, O2, M2, C2, rfl, z2⟩ := hz.shape
  have y2 : Gr w2 (w2.alloc (.cells #[.bool r2, .slice o2 l2 c2, .bool R2, .slice O2 M2 C2] 53)) := (Gr.refl _).alloc _
  have g2' := g2.trans (y2.below.mono g2.size)
  have n10 : X9 < w2.heap.size := Nat.lt_of_lt_of_le m9 g2.size
  replace hF := hF.trans (g2'.mono hF.size)
  replace hR := hR.mono g2' hR.lt
  have v9' := v9.out.mono g2'
  have v10 : Vq (w2.alloc (.cells #[.bool r2, .slice o2 l2 c2, .bool R2, .slice O2 M2 C2] 53)) w2.heap.size q D := ⟨_, _, _, _, _, _, _, _, Q4.new w2 (.bool r2) (.slice o2 l2 c2) (.bool R2) (.slice O2 M2 C2), z2.out.mono y2.below⟩
  have S : Hid (Ol w.heap.size w (w2.alloc (.cells #[.bool r2, .slice o2 l2 c2, .bool R2, .slice O2 M2 C2] 53)) X9 w2.heap.size (w.heap.size + 1 + 1 + 1 + 1) p D q D) := hid' ⟨v9', v10, hR, hF, by omega, by omega, by omega, by omega, by omega, by omega⟩
  clear hz g2 g2' y2 A2 z2 a0 a1 b0 b1 d0 d1 m9 v9 v9' v10 hR hF n9 s9
  go_upto_region 3 with fail
  generalize w2.alloc (.cells #[.bool r2, .slice o2 l2 c2, .bool R2, .slice O2 M2 C2] 53) = Y2 at *
  generalize w2.heap.size = X10 at *
  clear n10
  obtain ⟨r3, o3, l3, c3, R3, O3, M3, C3, k9, t9⟩ := S.out.a
  obtain ⟨r4, o4, l4, c4, R4, O4, M4, C4, k10, t10⟩ := S.out.b
  have x0 := k9.c0
  have x1 := k9.c1
  have x2 := k9.c2
  have x3 := k9.c3
  have x4 := k10.c0
  have x5 := k10.c1
  have x6 := k10.c2
  have x7 := k10.c3
  replace t9 := hid' t9
  replace t10 := hid' t10
  go_wp2_with fail
  refine (rcmp_rt _ _ p D q D 4 4 _ t9.out t10.out (by omega)).mono ?_
  rintro e w3 ⟨rfl, g3⟩
  have hcm : (0 < cmpI (p * D) (q * D)) ↔ q < p := by
    have z1 : p * D < q * D ↔ p < q := ⟨fun h => Int.lt_of_mul_lt_mul_right h (by omega), fun h => Int.mul_lt_mul_of_pos_right h h0⟩
    have z2 : q * D < p * D ↔ q < p := ⟨fun h => Int.lt_of_mul_lt_mul_right h (by omega), fun h => Int.mul_lt_mul_of_pos_right h h0⟩
    unfold cmpI
    split
    · omega
    · split <;> omega
  replace k9 := k9.mono g3 k9.lt
  replace k10 := k10.mono g3 k10.lt
  replace t9 := hid' (t9.out.mono g3)
  replace t10 := hid' (t10.out.mono g3)
  replace S := hid' (S.out.mono g3)
  clear g3 x0 x1 x2 x3 x4 x5 x6 x7
  generalize cmpI (p * D) (q * D) = CM at *
  replace hcm := hid' hcm
  go_upto_if 24 with fail
  go_cut [24] (fun _ w' => Hid (Ol w.heap.size w w' X9 X10 (w.heap.size + 1 + 1 + 1 + 1) (min p q) D (max p q) D))
  case first =>
    by_cases hs : q < p
    · have hc := hcm.out.mpr hs
      have e1 : Hid (q = min p q) := by unfold Hid; omega
      have e2 : Hid (p = max p q) := by unfold Hid; omega
      have x0 := k9.c0
      have x1 := k9.c1
      have x2 := k9.c2
      have x3 := k9.c3
      have x4 := k10.c0
      have x5 := k10.c1
      have x6 := k10.c2
      have x7 := k10.c3
      have f9 := k9.f
      have f10 := k10.f
      have V := hid' (S.out.putA t10.out)
      have z9 := hid' (t9.out.setQ k9 (.bool r4) (.slice o4 l4 c4) (.bool R4) (.slice O4 M4 C4))
      clear hcm t9 t10 hs S k9 k10
      go_upto_region 4 with fail
      iterate 10 (first | go_values | go_skip | go_guarded | go_step | go_upon)
      clear x0 x1 x2 x3 x4 x5 x6 x7 f9 f10
      generalize (((w3.setCell ⟨X9, 0, none⟩ (.bool r4)).setCell ⟨X9, 1, none⟩ (.slice o4 l4 c4)).setCell ⟨X9, 2, none⟩ (.bool R4)).setCell ⟨X9, 3, none⟩ (.slice O4 M4 C4) = U at *
      obtain ⟨_, _, _, _, _, _, _, _, j10, _⟩ := V.out.b
      have x4 := j10.c0
      have x5 := j10.c1
      have x6 := j10.c2
      have x7 := j10.c3
      have f10 := j10.f
      replace V := hid' (V.out.putB z9.out)
      clear z9 j10
      go_wp2
      go_meet
      case rel => exact hid' (V.out.to e1.out rfl e2.out rfl)
    · have hc : CM ≤ 0 := Int.not_lt.mp (fun g => hs (hcm.out.mp g))
      have e1 : Hid (p = min p q) := by unfold Hid; omega
      have e2 : Hid (q = max p q) := by unfold Hid; omega
      clear hcm hs t9 t10 k9 k10
      go_wp2
      go_meet
      case rel => exact hid' (S.out.to e1.out rfl e2.out rfl)
  case rest =>
    clear k9 k10 t9 t10 hcm S
    have bF : Hid ((min p q).natAbs ≤ 9223372036854775807 ∧ (max p q).natAbs ≤ 9223372036854775807) := by
      have := bp.out
      refine ⟨?_, ?_⟩ <;> omega
    have bD := hid' bp.out.2.2
    clear bp
    generalize min p q = F at *
    generalize max p q = T at *
    clear r3 o3 l3 c3 R3 O3 M3 C3 r4 o4 l4 c4 R4 O4 M4 C4 CM
    have S := hcut
    obtain ⟨r3, o3, l3, c3, R3, O3, M3, C3, k9, t9⟩ := S.out.a
    have x0 := k9.c0
    have x1 := k9.c1
    have x2 := k9.c2
    have x3 := k9.c3
    replace t9 := hid' t9
    clear hcut
    go_wp2_with fail
    refine (rsign_rt _ F D 4 _ t9.out).mono ?_
    rintro e w4 ⟨rfl, g4⟩
    have hcm : Hid (cmpI F 0 < 0 ↔ F < 0) := by
      unfold Hid cmpI
      split
      · omega
      · split <;> omega
    replace k9 := k9.mono g4 k9.lt
    replace S := hid' (S.out.mono g4)
    clear g4 x0 x1 x2 x3 t9
    generalize cmpI F 0 = CM at *
    go_upto_if 29 with fail
    go_cut [29] (fun _ w' => Hid (Ol w.heap.size w w' X9 X10 (w.heap.size + 1 + 1 + 1 + 1) (rfF D F).1 (rfF D F).2 T D))
    case first =>
      by_cases hs : F < 0
      · have hc := hcm.out.mpr hs
        have e1 : Hid (0 = (rfF D F).1) := (rfF_neg hs).1.symm
        have e2 : Hid (1 = (rfF D F).2) := (rfF_neg hs).2.symm
        clear hcm hs
        go_wp2_with fail
        refine (W0.out _).mono ?_
        rintro e w5 ⟨z, rfl, hz, g5⟩
        obtain ⟨r5, o5, l5, c5, R5, O5, M5, C5, rfl, z5⟩ := hz.shape
        replace k9 := k9.mono g5 k9.lt
        have f9 := k9.f
        have x0 := k9.c0
        have x1 := k9.c1
        have x2 := k9.c2
        have x3 := k9.c3
        have V := hid' ((S.out.mono g5).putA (z5.out.le (by omega)))
        clear S k9 hz z5 g5
        go_wp2
        go_meet
        case rel => exact hid' (V.out.to e1.out e2.out rfl rfl)
      · have hc : 0 ≤ CM := Int.not_lt.mp (fun g => hs (hcm.out.mp g))
        have e1 : Hid (F = (rfF D F).1) := (rfF_pos hs).1.symm
        have e2 : Hid (D = (rfF D F).2) := (rfF_pos hs).2.symm
        clear hcm hs k9
        go_wp2
        go_meet
        case rel => exact hid' (S.out.to e1.out e2.out rfl rfl)
    case rest =>
      clear S k9 hcm r3 o3 l3 c3 R3 O3 M3 C3 CM
      have hF : Hid (0 < (rfF D F).2 ∧ (rfF D F).2 ≤ 9223372036854775807 ∧ (rfF D F).1.natAbs ≤ 9223372036854775807) := by
        have := bF.out
        have := bD.out
        unfold Hid rfF
        split <;> simp <;> omega
      have S := hcut
      clear hcut
      have E : Hid (res = if (rfT D T).1 * (rfF D F).2 < (rfF D F).1 * (rfT D T).2 then mt0 else ((if (rfF D F).1 * (rfT D T).2 = (rfT D T).1 * (rfF D F).2 then 1 else 2), false, lowF (rfF D F).1 (rfF D F).2, lowF (rfT D T).1 (rfT D T).2)) := hres
      clear hres
      generalize (rfF D F).1 = fn at *
      generalize (rfF D F).2 = fd at *
      obtain ⟨r4, o4, l4, c4, R4, O4, M4, C4, k10, t10⟩ := S.out.b
      replace t10 := hid' t10
      go_upto_region 7 with fail
      go_cut [34] (fun s w' => s = .bool (decide (0 < cmpI T D)) ∧ Hid (Ol w.heap.size w w' X9 X10 (w.heap.size + 1 + 1 + 1 + 1) fn fd T D))
      case first =>
        have hS0 : Hid (SQ X10 (.bool r4) (.slice o4 l4 c4) (.bool R4) (.slice O4 M4 C4) wc.drew) := ⟨k10.c0, k10.c1, k10.c2, k10.c3⟩
        have zd := hid' (t10.out.mono (Below.refl _ _).drew)
        replace S := hid' S.out.drew
        clear k10 t10
        go_region_held3 (SQ X10 (.bool r4) (.slice o4 l4 c4) (.bool R4) (.slice O4 M4 C4))
          (repeat (first | with_reducible exact hS3.out | with_reducible exact hS2.out | with_reducible exact hS0.out))
          (first
            | (go_at_call 27; refine (rcmp_rt _ _ T D 1 1 4 2 _ zd.out zw.out (by omega)).mono ?_; rintro e y3 ⟨rfl, g3⟩; have hS3 : Hid (SQ X10 (.bool r4) (.slice o4 l4 c4) (.bool R4) (.slice O4 M4 C4) y3) := SQ.call hS2.out g3; replace S := hid' (S.out.mono g3))
            | (go_at_call 26; refine (W1.out _).mono ?_; rintro e y2 ⟨z, rfl, hz, g2⟩; obtain ⟨r2, o2, l2, c2, R2, O2, M2, C2, rfl, zw⟩ := hz.shape; clear hz; replace zd := hid' (zd.out.mono g2); have hS2 : Hid (SQ X10 (.bool r4) (.slice o4 l4 c4) (.bool R4) (.slice O4 M4 C4) y2) := SQ.call hS0.out g2; replace S := hid' (S.out.mono g2)))
        all_goals
          go_wp2
          go_meet
          case rel => exact ⟨rfl, S⟩
      case rest =>
        obtain ⟨rfl, S⟩ := hcut
        have hcm : Hid (0 < cmpI T D ↔ D < T) := by
          unfold Hid cmpI
          split
          · omega
          · split <;> omega
        clear k10 t10 r4 o4 l4 c4 R4 O4 M4 C4
        generalize cmpI T D = CM at *
        go_upto_if 34 with fail
        go_cut [34] (fun _ w' => Hid (Ol w.heap.size w w' X9 X10 (w.heap.size + 1 + 1 + 1 + 1) fn fd (rfT D T).1 (rfT D T).2))
        case first =>
          by_cases hs : D < T
          · have hc := hcm.out.mpr hs
            have e1 : Hid (1 = (rfT D T).1) := (rfT_neg hs).1.symm
            have e2 : Hid (1 = (rfT D T).2) := (rfT_neg hs).2.symm
            clear hcm hs
            go_wp2_with fail
            refine (W1.out _).mono ?_
            rintro e w5 ⟨z, rfl, hz, g5⟩
            obtain ⟨r5, o5, l5, c5, R5, O5, M5, C5, rfl, z5⟩ := hz.shape
            obtain ⟨_, _, _, _, _, _, _, _, k10, _⟩ := (S.out.mono g5).b
            have f10 := k10.f
            have x0 := k10.c0
            have x1 := k10.c1
            have x2 := k10.c2
            have x3 := k10.c3
            have V := hid' ((S.out.mono g5).putB (z5.out.le (by omega)))
            clear S k10 hz z5 g5
            go_wp2
            go_meet
            case rel => exact hid' (V.out.to rfl rfl e1.out e2.out)
          · have hc : CM ≤ 0 := Int.not_lt.mp (fun g => hs (hcm.out.mp g))
            have e1 : Hid (T = (rfT D T).1) := (rfT_pos hs).1.symm
            have e2 : Hid (D = (rfT D T).2) := (rfT_pos hs).2.symm
            clear hcm hs
            go_wp2
            go_meet
            case rel => exact hid' (S.out.to rfl rfl e1.out e2.out)
        case rest =>
          clear hcm CM S
          have hT : Hid (0 < (rfT D T).2 ∧ (rfT D T).2 ≤ 9223372036854775807 ∧ (rfT D T).1.natAbs ≤ 9223372036854775807) := by
            have := bF.out
            have := bD.out
            unfold Hid rfT
            split <;> simp <;> omega
          have S := hcut
          clear hcut bF bD W0 W1
          generalize (rfT D T).1 = tn at *
          generalize (rfT D T).2 = td at *
          clear h0
          obtain ⟨r3, o3, l3, c3, R3, O3, M3, C3, k9, t9⟩ := S.out.a
          obtain ⟨r4, o4, l4, c4, R4, O4, M4, C4, k10, t10⟩ := S.out.b
          have x0 := k9.c0
          have x1 := k9.c1
          have x2 := k9.c2
          have x3 := k9.c3
          have x4 := k10.c0
          have x5 := k10.c1
          have x6 := k10.c2
          have x7 := k10.c3
          replace t9 := hid' t9
          replace t10 := hid' t10
          go_wp2_with fail
          refine (rcmp_rt _ _ fn fd tn td 4 4 _ t9.out t10.out (by omega)).mono ?_
          rintro e w6 ⟨rfl, g6⟩
          replace k9 := k9.mono g6 k9.lt
          replace k10 := k10.mono g6 k10.lt
          replace t9 := hid' (t9.out.mono g6)
          replace t10 := hid' (t10.out.mono g6)
          replace S := hid' (S.out.mono g6)
          clear g6 x0 x1 x2 x3 x4 x5 x6 x7
          have hc1 : Hid (0 < cmpI (fn * td) (tn * fd) ↔ tn * fd < fn * td) := by
            unfold Hid cmpI
            split
            · omega
            · split <;> omega
          have hc2 : Hid (cmpI (fn * td) (tn * fd) = 0 ↔ fn * td = tn * fd) := by
            unfold Hid cmpI
            split
            · omega
            · split <;> omega
          generalize cmpI (fn * td) (tn * fd) = CM at *
          have hr := S.out.r
          have hb := S.out.g
          by_cases hs : tn * fd < fn * td
          · have hc := hc1.out.mpr hs
            have e : Hid (res = mt0) := by unfold Hid; rw [E.out, if_pos hs]
            have r0 := hr.c0
            have r1 := hr.c1
            have r2 := hr.c2
            have r3' := hr.c3
            have r4' := hr.c4
            have r5 := hr.c5
            have rf := hr.f
            clear hc1 hc2 E hs t9 t10 k9 k10 S
            go_wp2
            refine bodyPost_ret (v := mtv mt0) (by simp [results, Try.results22, go_sem, r0, r1, r2, r3', r4', r5, mt0]) rfl ⟨by rw [e.out], ?_⟩
            exact (((((hb.setCell (by simp only []; omega) _).setCell (by simp only []; omega) _).setCell (by simp only []; omega) _).setCell (by simp only []; omega) _).setCell (by simp only []; omega) _).setCell (by simp only []; omega) _
          · have hc : CM ≤ 0 := Int.not_lt.mp (fun g => hs (hc1.out.mp g))
            replace E : Hid (res = ((if fn * td = tn * fd then 1 else 2), false, lowF fn fd, lowF tn td)) := by unfold Hid; rw [E.out, if_neg hs]
            clear hc1 hs
            have FA := hid' (fun W h => frac_any (.agg #[.bool r3, .slice o3 l3 c3, .bool R3, .slice O3 M3 C3]) fn fd 4 W h hF.out.1 hF.out.2.1 hF.out.2.2)
            have FB := hid' (fun W h => frac_any (.agg #[.bool r4, .slice o4 l4 c4, .bool R4, .slice O4 M4 C4]) tn td 4 W h hT.out.1 hT.out.2.1 hT.out.2.2)
            clear hF hT
            generalize lowF fn fd = fa at *
            generalize lowF tn td = fb at *
            obtain ⟨pa, qa⟩ := fa
            obtain ⟨pb, qb⟩ := fb
            go_upto_region 12 with fail
            have rr : Hid (∀ W', Gr w6 W' → M6 W' (w.heap.size + 1 + 1 + 1 + 1) (.int .u8 0) (.bool false) (.int .i64 0) (.int .i64 0) (.int .i64 0) (.int .i64 0) ∧ Below w.heap.size w W') := fun W' h => ⟨hr.gr h, hb.trans (h.below.mono hb.size)⟩
            go_cut [12] (fun s W' => ∃ X, s = .pointer (some ⟨X, 0, none⟩) ∧ M6 W' X (.int .u8 2) (.bool false) (.int .i64 pa) (.int .i64 qa) (.int .i64 pb) (.int .i64 qb) ∧ M6 W' (w.heap.size + 1 + 1 + 1 + 1) (.int .u8 0) (.bool false) (.int .i64 0) (.int .i64 0) (.int .i64 0) (.int .i64 0) ∧ Below w.heap.size w W' ∧ w.heap.size ≤ X ∧ X ≠ w.heap.size + 1 + 1 + 1 + 1)
            case first =>
              have hK : w6.heap.size ≤ w6.heap.size := Nat.le_refl _
              have l9 := k9.lt
              have l10 := k10.lt
              have lr := hr.lt
              have G0 : Hid (Gr w6 w6.drew) := (Gr.refl _).drew
              have hS0 : Hid (S8 X9 X10 (.bool r3) (.slice o3 l3 c3) (.bool R3) (.slice O3 M3 C3) (.bool r4) (.slice o4 l4 c4) (.bool R4) (.slice O4 M4 C4) w6.heap.size w6 w6.drew) := ⟨k9.c0, k9.c1, k9.c2, k9.c3, k10.c0, k10.c1, k10.c2, k10.c3, (Below.refl _ _).drew⟩
              have hSW : Hid (S8 X9 X10 (.bool r3) (.slice o3 l3 c3) (.bool R3) (.slice O3 M3 C3) (.bool r4) (.slice o4 l4 c4) (.bool R4) (.slice O4 M4 C4) w6.heap.size w6 w6) := ⟨k9.c0, k9.c1, k9.c2, k9.c3, k10.c0, k10.c1, k10.c2, k10.c3, Below.refl _ _⟩
              clear k9 k10 hr hb S E hc2
              go_region_held3 (S8 X9 X10 (.bool r3) (.slice o3 l3 c3) (.bool R3) (.slice O3 M3 C3) (.bool r4) (.slice o4 l4 c4) (.bool R4) (.slice O4 M4 C4) w6.heap.size w6)
                (repeat (first | with_reducible exact hSA.out | with_reducible exact hSB.out | with_reducible exact hS0.out | with_reducible exact hSW.out | (with_reducible refine S8.set ?_ (by simp only []; omega) l9 l10 _) | (with_reducible refine S8.al ?_ hK _) | (with_reducible refine S8.dr ?_)))
                (first
                  | (go_at_call_of 28 (Value.agg #[.bool r3, .slice o3 l3 c3, .bool R3, .slice O3 M3 C3]); refine (FA.out _ (t9.out.gr (by (repeat (first | with_reducible exact GA.out | with_reducible exact GB.out | with_reducible exact G0.out | with_reducible exact Gr.refl _ | (with_reducible refine Gr.drew ?_) | (with_reducible refine Gr.alloc ?_ _) | (with_reducible refine Gr.setCell ?_ (by simp only []; omega) _)))))).mono ?_; rintro e yA ⟨rfl, gA⟩; have GA : Hid (Gr w6 yA) := hid' (Gr.trans (by (repeat (first | with_reducible exact GA.out | with_reducible exact GB.out | with_reducible exact G0.out | with_reducible exact Gr.refl _ | (with_reducible refine Gr.drew ?_) | (with_reducible refine Gr.alloc ?_ _) | (with_reducible refine Gr.setCell ?_ (by simp only []; omega) _)))) gA); have sA := GA.out.size; have hSA : Hid (S8 X9 X10 (.bool r3) (.slice o3 l3 c3) (.bool R3) (.slice O3 M3 C3) (.bool r4) (.slice o4 l4 c4) (.bool R4) (.slice O4 M4 C4) w6.heap.size w6 yA) := ⟨below_cell hSW.out.1 (GA.out.below), below_cell hSW.out.2.1 GA.out.below, below_cell hSW.out.2.2.1 GA.out.below, below_cell hSW.out.2.2.2.1 GA.out.below, below_cell hSW.out.2.2.2.2.1 GA.out.below, below_cell hSW.out.2.2.2.2.2.1 GA.out.below, below_cell hSW.out.2.2.2.2.2.2.1 GA.out.below, below_cell hSW.out.2.2.2.2.2.2.2.1 GA.out.below, GA.out.below⟩; first | (have mA : M6 yA w6.heap.size (.int .u8 0) (.bool false) (.int .i64 0) (.int .i64 0) (.int .i64 0) (.int .i64 0) := (by with_reducible exact ((M6.new w6 (.int .u8 0) (.bool false) (.int .i64 0) (.int .i64 0) (.int .i64 0) (.int .i64 0)).gr (Gr.drew (Gr.refl _))).gr gA); have a0 := mA.c0; have a1 := mA.c1; have a2 := mA.c2; have a3 := mA.c3; have a4 := mA.c4; have a5 := mA.c5; have af := mA.f) | (have mA : M6 yA yB.heap.size (.int .u8 0) (.bool false) (.int .i64 0) (.int .i64 0) (.int .i64 0) (.int .i64 0) := (by with_reducible exact (M6.new yB (.int .u8 0) (.bool false) (.int .i64 0) (.int .i64 0) (.int .i64 0) (.int .i64 0)).gr gA); have a0 := mA.c0; have a1 := mA.c1; have a2 := mA.c2; have a3 := mA.c3; have a4 := mA.c4; have a5 := mA.c5; have af := mA.f) | (have mA := mB.gr gA; have a0 := mA.c0; have a1 := mA.c1; have a2 := mA.c2; have a3 := mA.c3; have a4 := mA.c4; have a5 := mA.c5; have af := mA.f) | skip)
                  | (go_at_call_of 28 (Value.agg #[.bool r4, .slice o4 l4 c4, .bool R4, .slice O4 M4 C4]); refine (FB.out _ (t10.out.gr (by (repeat (first | with_reducible exact GA.out | with_reducible exact GB.out | with_reducible exact G0.out | with_reducible exact Gr.refl _ | (with_reducible refine Gr.drew ?_) | (with_reducible refine Gr.alloc ?_ _) | (with_reducible refine Gr.setCell ?_ (by simp only []; omega) _)))))).mono ?_; rintro e yB ⟨rfl, gB⟩; have GB : Hid (Gr w6 yB) := hid' (Gr.trans (by (repeat (first | with_reducible exact GA.out | with_reducible exact GB.out | with_reducible exact G0.out | with_reducible exact Gr.refl _ | (with_reducible refine Gr.drew ?_) | (with_reducible refine Gr.alloc ?_ _) | (with_reducible refine Gr.setCell ?_ (by simp only []; omega) _)))) gB); have sB := GB.out.size; have hSB : Hid (S8 X9 X10 (.bool r3) (.slice o3 l3 c3) (.bool R3) (.slice O3 M3 C3) (.bool r4) (.slice o4 l4 c4) (.bool R4) (.slice O4 M4 C4) w6.heap.size w6 yB) := ⟨below_cell hSW.out.1 GB.out.below, below_cell hSW.out.2.1 GB.out.below, below_cell hSW.out.2.2.1 GB.out.below, below_cell hSW.out.2.2.2.1 GB.out.below, below_cell hSW.out.2.2.2.2.1 GB.out.below, below_cell hSW.out.2.2.2.2.2.1 GB.out.below, below_cell hSW.out.2.2.2.2.2.2.1 GB.out.below, below_cell hSW.out.2.2.2.2.2.2.2.1 GB.out.below, GB.out.below⟩; first | (have mB : M6 yB w6.heap.size (.int .u8 0) (.bool false) (.int .i64 0) (.int .i64 0) (.int .i64 0) (.int .i64 0) := (by with_reducible exact ((M6.new w6 (.int .u8 0) (.bool false) (.int .i64 0) (.int .i64 0) (.int .i64 0) (.int .i64 0)).gr (Gr.drew (Gr.refl _))).gr gB); have b0 := mB.c0; have b1 := mB.c1; have b2 := mB.c2; have b3 := mB.c3; have b4 := mB.c4; have b5 := mB.c5; have bf := mB.f) | (have mB : M6 yB yA.heap.size (.int .u8 0) (.bool false) (.int .i64 0) (.int .i64 0) (.int .i64 0) (.int .i64 0) := (by with_reducible exact (M6.new yA (.int .u8 0) (.bool false) (.int .i64 0) (.int .i64 0) (.int .i64 0) (.int .i64 0)).gr gB); have b0 := mB.c0; have b1 := mB.c1; have b2 := mB.c2; have b3 := mB.c3; have b4 := mB.c4; have b5 := mB.c5; have bf := mB.f) | (have mB := mA.gr gB; have b0 := mB.c0; have b1 := mB.c1; have b2 := mB.c2; have b3 := mB.c3; have b4 := mB.c4; have b5 := mB.c5; have bf := mB.f) | skip))
              · go_wp2
                go_meet
                case rel =>
                  have q := rr.out _ (GB.out.alloc (.cells #[.int .u8 2, .bool false, .int .i64 pa, .int .i64 qa, .int .i64 pb, .int .i64 qb] 30))
                  exact ⟨_, rfl, M6.new yB _ _ _ _ _ _, q.1, q.2, by omega, by omega⟩
              · go_wp2
                go_meet
                case rel =>
                  have q := rr.out _ (sixG (z0 := .int .u8 2) (z1 := .bool false) (z2 := .int .i64 pa) (z3 := .int .i64 qa) (z4 := .int .i64 pb) (z5 := .int .i64 qb) sA GB.out)
                  exact ⟨_, rfl, (((((mB.s0 _).s1 _).s2 _).s3 _).s4 _).s5 _, q.1, q.2, by omega, by omega⟩
              · go_wp2
                go_meet
                case rel =>
                  have q := rr.out _ (sixG (z0 := .int .u8 2) (z1 := .bool false) (z2 := .int .i64 pa) (z3 := .int .i64 qa) (z4 := .int .i64 pb) (z5 := .int .i64 qb) hK GB.out)
                  exact ⟨_, rfl, (((((mB.s0 _).s1 _).s2 _).s3 _).s4 _).s5 _, q.1, q.2, by omega, by omega⟩
            case rest =>
              obtain ⟨X, rfl, mX, mR, hB, hX, hXR⟩ := hcut
              clear rr S k9 k10 t9 t10 FA FB hr hb
              by_cases hk : fn * td = tn * fd
              · obtain rfl : CM = 0 := hc2.out.mpr hk
                have e : Hid (res = (1, false, (pa, qa), (pb, qb))) := by unfold Hid; rw [E.out, if_pos hk]
                clear hc2 hk E
                have m0 := mX.c0
                have mf := mX.f
                have mX' := mX.s0 (.int .u8 1)
                have mR' := mR.other (p := ⟨X, 0, none⟩) (Ne.symm hXR) (.int .u8 1)
                have hB' := hB.setCell (p := ⟨X, 0, none⟩) hX (.int .u8 1)
                go_upto_region 15 with fail
                clear m0 mf mX mR hB
                generalize wc.setCell ⟨X, 0, none⟩ (.int .u8 1) = W9 at *
                have m0 := mX'.c0
                have m1 := mX'.c1
                have m2 := mX'.c2
                have m3 := mX'.c3
                have m4 := mX'.c4
                have m5 := mX'.c5
                have n0 := mR'.c0
                have n1 := mR'.c1
                have n2 := mR'.c2
                have n3 := mR'.c3
                have n4 := mR'.c4
                have n5 := mR'.c5
                have nf := mR'.f
                go_wp2
                refine bodyPost_ret (v := mtv (1, false, (pa, qa), (pb, qb))) (by simp [results, Try.results22, go_sem, n0, n1, n2, n3, n4, n5]) rfl ⟨by rw [e.out], ?_⟩
                exact (((((hB'.setCell (by simp only []; omega) _).setCell (by simp only []; omega) _).setCell (by simp only []; omega) _).setCell (by simp only []; omega) _).setCell (by simp only []; omega) _).setCell (by simp only []; omega) _
              · have hz : (CM == 0) = false := by simp; exact fun q => hk (hc2.out.mp q)
                have e : Hid (res = (2, false, (pa, qa), (pb, qb))) := by unfold Hid; rw [E.out, if_neg hk]
                clear hc2 hk E
                have mX' := mX
                have mR' := mR
                have hB' := hB
                clear mX mR hB
                have m0 := mX'.c0
                have m1 := mX'.c1
                have m2 := mX'.c2
                have m3 := mX'.c3
                have m4 := mX'.c4
                have m5 := mX'.c5
                have n0 := mR'.c0
                have n1 := mR'.c1
                have n2 := mR'.c2
                have n3 := mR'.c3
                have n4 := mR'.c4
                have n5 := mR'.c5
                have nf := mR'.f
                go_wp2
                refine bodyPost_ret (v := mtv (2, false, (pa, qa), (pb, qb))) (by simp [results, Try.results22, go_sem, n0, n1, n2, n3, n4, n5]) rfl ⟨by rw [e.out], ?_⟩
                exact (((((hB'.setCell (by simp only []; omega) _).setCell (by simp only []; omega) _).setCell (by simp only []; omega) _).setCell (by simp only []; omega) _).setCell (by simp only []; omega) _).setCell (by simp only []; omega) _
end Go.Proofs.Ytagabccaipfjeaa
