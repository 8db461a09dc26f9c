/- Plain: the reference's foot and its distance, in fractions. Contract of the reference's foot. Contract of the reference's Foot. Contract of the reference's At. The reference's Near, its last statements one by one. Contract of the reference's Near. Contract of the reference's Near: of any points and radius. Contract of the reference's NearSeg: of any points and radius. -/
import Derived.Test.YtagabccaipfjeaaSegS
import Derived.Test.YtagabccaipfjeaaR21
namespace Go.Proofs.Ytagabccaipfjeaa
section

/-- Where along a segment the nearest point is, as the reference has it. -/
def rft (p a b : P2) : Fr := if a = b then (0, 1) else if dtt a b p < 0 then (0, 1) else if dd a b < dtt a b p then (1, 1) else (dtt a b p, dd a b)
theorem rft_pos (p a b : P2) : 0 < (rft p a b).2 := by
  unfold rft
  split
  · decide
  · next h =>
    split
    · decide
    · split
      · decide
      · exact dd_pos h
theorem rft_low (p a b : P2) : lowF (rft p a b).1 (rft p a b).2 = footF p a b := by
  unfold rft footF
  by_cases h : a = b
  · rw [if_pos h, if_pos h]; rfl
  · rw [if_neg h, if_neg h]
    have hN := dd_pos h
    unfold clampT
    by_cases h1 : dtt a b p < 0
    · rw [if_pos h1]
      exact lowF_eq (by decide) (by omega) (by rw [show min (max (dtt a b p) 0) (dd a b) = 0 by omega]; simp)
    · rw [if_neg h1]
      by_cases h2 : dd a b < dtt a b p
      · rw [if_pos h2]
        exact lowF_eq (by decide) (by omega) (by rw [show min (max (dtt a b p) 0) (dd a b) = dd a b by omega]; simp)
      · rw [if_neg h2, show min (max (dtt a b p) 0) (dd a b) = dtt a b p by omega]
/-- The square of the distance from that point, as a fraction. -/
def rdX (p a b : P2) : Int := (p.1 - a.1) * (rft p a b).2 - (rft p a b).1 * (b.1 - a.1)
def rdY (p a b : P2) : Int := (p.2 - a.2) * (rft p a b).2 - (rft p a b).1 * (b.2 - a.2)
def rdN (p a b : P2) : Int := rdX p a b * rdX p a b * ((rft p a b).2 * (rft p a b).2) + rdY p a b * rdY p a b * ((rft p a b).2 * (rft p a b).2)
def rdD (p a b : P2) : Int := (rft p a b).2 * (rft p a b).2 * ((rft p a b).2 * (rft p a b).2)
theorem rdD_pos (p a b : P2) : 0 < rdD p a b := by
  have := rft_pos p a b
  exact Int.mul_pos (Int.mul_pos this this) (Int.mul_pos this this)
theorem rd_gen {p a b : P2} {T D s : Int} (hT : dtt a b p = T) (hD : dd a b = D) (h : 0 < D) (e : rft p a b = (T, D)) : rdN p a b ≤ s * rdD p a b ↔ crs a b p * crs a b p ≤ s * D := by
  have e1 : rdX p a b * rdX p a b + rdY p a b * rdY p a b = D * (crs a b p * crs a b p) := by
    unfold rdX rdY
    rw [e, ← hT, ← hD]
    unfold dtt dd crs
    grind
  have e2 : rdN p a b = (crs a b p * crs a b p) * (D * D * D) := by
    have : rdN p a b = (rdX p a b * rdX p a b + rdY p a b * rdY p a b) * (D * D) := by
      unfold rdN
      rw [e]
      generalize rdX p a b * rdX p a b = x
      generalize rdY p a b * rdY p a b = y
      show x * (D * D) + y * (D * D) = (x + y) * (D * D)
      grind
    rw [this, e1]
    generalize crs a b p * crs a b p = c
    grind
  have e3 : s * rdD p a b = (s * D) * (D * D * D) := by
    unfold rdD
    rw [e]
    show s * (D * D * (D * D)) = (s * D) * (D * D * D)
    grind
  have hp : 0 < D * D * D := Int.mul_pos (Int.mul_pos h h) h
  rw [e2, e3]
  exact ⟨fun q => Int.le_of_mul_le_mul_right q hp, fun q => Int.mul_le_mul_of_nonneg_right q (by omega)⟩
theorem rd_iff (p a b : P2) (s : Int) : rdN p a b ≤ s * rdD p a b ↔ (dtt a b p ≤ 0 ∧ dd p a ≤ s) ∨ (0 < dtt a b p ∧ dd a b ≤ dtt a b p ∧ dd p b ≤ s) ∨ (0 < dtt a b p ∧ dtt a b p < dd a b ∧ crs a b p * crs a b p ≤ s * dd a b) := by
  have py := pyth p a b
  have od := dd_other p a b
  by_cases h : a = b
  · have e : rft p a b = (0, 1) := by unfold rft; rw [if_pos h]
    have z : dtt a b p = 0 := by rw [h]; unfold dtt; grind
    have n : rdN p a b = dd p a := by unfold rdN rdX rdY; rw [e]; unfold dd; grind
    have d : rdD p a b = 1 := by unfold rdD; rw [e]; rfl
    rw [n, d, z]
    omega
  · have hN := dd_pos h
    by_cases h1 : dtt a b p < 0
    · have e : rft p a b = (0, 1) := by unfold rft; rw [if_neg h, if_pos h1]
      have n : rdN p a b = dd p a := by unfold rdN rdX rdY; rw [e]; unfold dd; grind
      have d : rdD p a b = 1 := by unfold rdD; rw [e]; rfl
      rw [n, d]
      omega
    · by_cases h2 : dd a b < dtt a b p
      · have e : rft p a b = (1, 1) := by unfold rft; rw [if_neg h, if_neg h1, if_pos h2]
        have n : rdN p a b = dd p b := by unfold rdN rdX rdY; rw [e]; unfold dd; grind
        have d : rdD p a b = 1 := by unfold rdD; rw [e]; rfl
        rw [n, d]
        omega
      · have e : rft p a b = (dtt a b p, dd a b) := by unfold rft; rw [if_neg h, if_neg h1, if_neg h2]
        rw [rd_gen rfl rfl hN e]
        generalize crs a b p * crs a b p = c at *
        by_cases k1 : dtt a b p = 0
        · rw [k1] at py od ⊢
          have q : c ≤ s * dd a b ↔ dd p a ≤ s := by
            have : c = dd p a * dd a b := by rw [Int.mul_comm]; omega
            rw [this]
            exact ⟨fun g => Int.le_of_mul_le_mul_right g hN, fun g => Int.mul_le_mul_of_nonneg_right g (by omega)⟩
          rw [q]
          omega
        · by_cases k2 : dtt a b p = dd a b
          · have q : c ≤ s * dd a b ↔ dd p b ≤ s := by
              have : c = dd p b * dd a b := by
                rw [od, k2]
                rw [k2] at py
                have : (dd p a - 2 * dd a b + dd a b) * dd a b = dd a b * dd p a - dd a b * dd a b := by grind
                omega
              rw [this]
              exact ⟨fun g => Int.le_of_mul_le_mul_right g hN, fun g => Int.mul_le_mul_of_nonneg_right g (by omega)⟩
            rw [q]
            omega
          · omega
/-- The reference's answer is the program's. -/
theorem near_rd {p a b : P2} {r : Int} (lp : lat p) (la : lat a) (h0 : 0 ≤ r) : decide (rdN p a b ≤ r * r * rdD p a b) = nearB p a b r := by
  rw [Bool.eq_iff_iff, decide_eq_true_iff]
  by_cases h : r ≤ farI
  · have e : sqR r = r * r := by unfold sqR; rw [show min r farI = r by omega]
    rw [rd_iff, near_iff, e]
  · have f : sqR r = sqR farI := by unfold sqR; rw [show min r farI = farI by omega, show min farI farI = farI by omega]
    have t : nearB p a b farI = true := near_far lp la
    have t' : nearB p a b r = true := by rw [near_iff, f, ← near_iff]; exact t
    have u : rdN p a b ≤ sqR farI * rdD p a b := by rw [rd_iff, ← near_iff]; exact t
    refine ⟨fun _ => t', fun _ => Int.le_trans u ?_⟩
    refine Int.mul_le_mul_of_nonneg_right ?_ (by have := rdD_pos p a b; omega)
    have hf : 0 ≤ farI := by unfold farI; decide
    unfold sqR
    rw [show min farI farI = farI by omega]
    exact Int.mul_le_mul (by omega) (by omega) hf h0
end
section
open Go.RowKit Go.Sort

abbrev T16 (a0 a1 a2 a3 a4 a5 a6 a7 a8 a9 a10 a11 a12 a13 a14 a15 : Addr) (v0 v1 v2 v3 v4 v5 v6 v7 v8 v9 v10 v11 v12 v13 v14 v15 : Value) (K : Nat) (W w : World) : Prop := w.cell? a0 = some v0 ∧ w.cell? a1 = some v1 ∧ w.cell? a2 = some v2 ∧ w.cell? a3 = some v3 ∧ w.cell? a4 = some v4 ∧ w.cell? a5 = some v5 ∧ w.cell? a6 = some v6 ∧ w.cell? a7 = some v7 ∧ w.cell? a8 = some v8 ∧ w.cell? a9 = some v9 ∧ w.cell? a10 = some v10 ∧ w.cell? a11 = some v11 ∧ w.cell? a12 = some v12 ∧ w.cell? a13 = some v13 ∧ w.cell? a14 = some v14 ∧ w.cell? a15 = some v15 ∧ Below K W w
theorem T16.call {a0 a1 a2 a3 a4 a5 a6 a7 a8 a9 a10 a11 a12 a13 a14 a15 : Addr} {v0 v1 v2 v3 v4 v5 v6 v7 v8 v9 v10 v11 v12 v13 v14 v15 : Value} {K : Nat} {W w : World} {w' : World} (h : T16 a0 a1 a2 a3 a4 a5 a6 a7 a8 a9 a10 a11 a12 a13 a14 a15 v0 v1 v2 v3 v4 v5 v6 v7 v8 v9 v10 v11 v12 v13 v14 v15 K W w) (hK : K ≤ W.heap.size) (g : Below w.heap.size w w') : T16 a0 a1 a2 a3 a4 a5 a6 a7 a8 a9 a10 a11 a12 a13 a14 a15 v0 v1 v2 v3 v4 v5 v6 v7 v8 v9 v10 v11 v12 v13 v14 v15 K W w' :=
  ⟨below_cell h.1 g, below_cell h.2.1 g, below_cell h.2.2.1 g, below_cell h.2.2.2.1 g, below_cell h.2.2.2.2.1 g, below_cell h.2.2.2.2.2.1 g, below_cell h.2.2.2.2.2.2.1 g, below_cell h.2.2.2.2.2.2.2.1 g, below_cell h.2.2.2.2.2.2.2.2.1 g, below_cell h.2.2.2.2.2.2.2.2.2.1 g, below_cell h.2.2.2.2.2.2.2.2.2.2.1 g, below_cell h.2.2.2.2.2.2.2.2.2.2.2.1 g, below_cell h.2.2.2.2.2.2.2.2.2.2.2.2.1 g, below_cell h.2.2.2.2.2.2.2.2.2.2.2.2.2.1 g, below_cell h.2.2.2.2.2.2.2.2.2.2.2.2.2.2.1 g, below_cell h.2.2.2.2.2.2.2.2.2.2.2.2.2.2.2.1 g, h.2.2.2.2.2.2.2.2.2.2.2.2.2.2.2.2.trans (g.mono (Nat.le_trans hK h.2.2.2.2.2.2.2.2.2.2.2.2.2.2.2.2.size))⟩
theorem T16.al {a0 a1 a2 a3 a4 a5 a6 a7 a8 a9 a10 a11 a12 a13 a14 a15 : Addr} {v0 v1 v2 v3 v4 v5 v6 v7 v8 v9 v10 v11 v12 v13 v14 v15 : Value} {K : Nat} {W w : World} (h : T16 a0 a1 a2 a3 a4 a5 a6 a7 a8 a9 a10 a11 a12 a13 a14 a15 v0 v1 v2 v3 v4 v5 v6 v7 v8 v9 v10 v11 v12 v13 v14 v15 K W w) (hK : K ≤ W.heap.size) (o : Obj) : T16 a0 a1 a2 a3 a4 a5 a6 a7 a8 a9 a10 a11 a12 a13 a14 a15 v0 v1 v2 v3 v4 v5 v6 v7 v8 v9 v10 v11 v12 v13 v14 v15 K W (w.alloc o) := T16.call h hK ((Gr.refl _).alloc _).below
theorem T16.dr {a0 a1 a2 a3 a4 a5 a6 a7 a8 a9 a10 a11 a12 a13 a14 a15 : Addr} {v0 v1 v2 v3 v4 v5 v6 v7 v8 v9 v10 v11 v12 v13 v14 v15 : Value} {K : Nat} {W w : World} (h : T16 a0 a1 a2 a3 a4 a5 a6 a7 a8 a9 a10 a11 a12 a13 a14 a15 v0 v1 v2 v3 v4 v5 v6 v7 v8 v9 v10 v11 v12 v13 v14 v15 K W w) : T16 a0 a1 a2 a3 a4 a5 a6 a7 a8 a9 a10 a11 a12 a13 a14 a15 v0 v1 v2 v3 v4 v5 v6 v7 v8 v9 v10 v11 v12 v13 v14 v15 K W w.drew := ⟨h.1, h.2.1, h.2.2.1, h.2.2.2.1, h.2.2.2.2.1, h.2.2.2.2.2.1, h.2.2.2.2.2.2.1, h.2.2.2.2.2.2.2.1, h.2.2.2.2.2.2.2.2.1, h.2.2.2.2.2.2.2.2.2.1, h.2.2.2.2.2.2.2.2.2.2.1, h.2.2.2.2.2.2.2.2.2.2.2.1, h.2.2.2.2.2.2.2.2.2.2.2.2.1, h.2.2.2.2.2.2.2.2.2.2.2.2.2.1, h.2.2.2.2.2.2.2.2.2.2.2.2.2.2.1, h.2.2.2.2.2.2.2.2.2.2.2.2.2.2.2.1, h.2.2.2.2.2.2.2.2.2.2.2.2.2.2.2.2.drew⟩
theorem T16.set {a0 a1 a2 a3 a4 a5 a6 a7 a8 a9 a10 a11 a12 a13 a14 a15 : Addr} {v0 v1 v2 v3 v4 v5 v6 v7 v8 v9 v10 v11 v12 v13 v14 v15 : Value} {K : Nat} {W w : World} (h : T16 a0 a1 a2 a3 a4 a5 a6 a7 a8 a9 a10 a11 a12 a13 a14 a15 v0 v1 v2 v3 v4 v5 v6 v7 v8 v9 v10 v11 v12 v13 v14 v15 K W w) {p : Addr} (hp : K ≤ p.block) (q : a0.block < K ∧ a1.block < K ∧ a2.block < K ∧ a3.block < K ∧ a4.block < K ∧ a5.block < K ∧ a6.block < K ∧ a7.block < K ∧ a8.block < K ∧ a9.block < K ∧ a10.block < K ∧ a11.block < K ∧ a12.block < K ∧ a13.block < K ∧ a14.block < K ∧ a15.block < K) (z : Value) : T16 a0 a1 a2 a3 a4 a5 a6 a7 a8 a9 a10 a11 a12 a13 a14 a15 v0 v1 v2 v3 v4 v5 v6 v7 v8 v9 v10 v11 v12 v13 v14 v15 K W (w.setCell p z) :=
  have f : ∀ a : Addr, a.block < K → (w.setCell p z).cell? a = w.cell? a := fun a ha => World.cell?_setCell_far w p a z (by omega)
  ⟨(f _ q.1).trans h.1, (f _ q.2.1).trans h.2.1, (f _ q.2.2.1).trans h.2.2.1, (f _ q.2.2.2.1).trans h.2.2.2.1, (f _ q.2.2.2.2.1).trans h.2.2.2.2.1, (f _ q.2.2.2.2.2.1).trans h.2.2.2.2.2.1, (f _ q.2.2.2.2.2.2.1).trans h.2.2.2.2.2.2.1, (f _ q.2.2.2.2.2.2.2.1).trans h.2.2.2.2.2.2.2.1, (f _ q.2.2.2.2.2.2.2.2.1).trans h.2.2.2.2.2.2.2.2.1, (f _ q.2.2.2.2.2.2.2.2.2.1).trans h.2.2.2.2.2.2.2.2.2.1, (f _ q.2.2.2.2.2.2.2.2.2.2.1).trans h.2.2.2.2.2.2.2.2.2.2.1, (f _ q.2.2.2.2.2.2.2.2.2.2.2.1).trans h.2.2.2.2.2.2.2.2.2.2.2.1, (f _ q.2.2.2.2.2.2.2.2.2.2.2.2.1).trans h.2.2.2.2.2.2.2.2.2.2.2.2.1, (f _ q.2.2.2.2.2.2.2.2.2.2.2.2.2.1).trans h.2.2.2.2.2.2.2.2.2.2.2.2.2.1, (f _ q.2.2.2.2.2.2.2.2.2.2.2.2.2.2.1).trans h.2.2.2.2.2.2.2.2.2.2.2.2.2.2.1, (f _ q.2.2.2.2.2.2.2.2.2.2.2.2.2.2.2).trans h.2.2.2.2.2.2.2.2.2.2.2.2.2.2.2.1, h.2.2.2.2.2.2.2.2.2.2.2.2.2.2.2.2.setCell hp z⟩
set_option maxRecDepth 20000 in
set_option maxHeartbeats 4000000 in
theorem foot_a {u0 u1 u2 u3 u4 u5 u7 u8 u9 u10 u12 u13 u14 u15 u16 u17 u18 u19 u20 u21 u22 u23 u24 u25 u26 u27 u28 u29 u30 u31 u32 u33 u34 u35 u36 u37 u38 u39 u40 u41 u42 u43 u44 u45 u46 u47 u48 u49 u50 u51 u52 u53 u54 u55 u56 u57 u58 u59 u60 u61 u62 u63 u64 u65 u66 u67 u68 u69 u70 u71 u72 : Value} (w wq : World) (R : Nat) (fn fd : Int) (X11 : Nat) (T D : Int) (hR : w.heap.size ≤ R) (kR : Q4 wq R (.bool false) (.slice none 0 0) (.bool false) (.slice none 0 0)) (hB : Below w.heap.size w wq) (V : VL wq X11 T D 18) (E1 : Hid (T < 0 → fn = 0 ∧ fd = 1)) (E2 : Hid (0 ≤ T → D < T → fn = 1 ∧ fd = 1)) (E3 : Hid (0 ≤ T → T ≤ D → fn = T ∧ fd = D)) (Q : Exit → Act → World → Prop) (hQ : Q = bodyPost Try.prog Try.f34 (fun e w' => ∃ z, e = .returned z ∧ Rt w' z fn fd 18 ∧ Below w.heap.size w w')) :
    Code.wp Try.prog (codeTail 7 (codeOf Try.f34)) Q { tmps := #[u0, u1, u2, u3, u4, u5, .pointer (some ⟨R, 0, none⟩), u7, u8, u9, u10, .pointer (some ⟨X11, 0, none⟩), u12, u13, u14, u15, u16, u17, u18, u19, u20, u21, u22, u23, u24, u25, u26, u27, u28, u29, u30, u31, u32, u33, u34, u35, u36, u37, u38, u39, u40, u41, u42, u43, u44, u45, u46, u47, u48, u49, u50, u51, u52, u53, u54, u55, u56, u57, u58, u59, u60, u61, u62, u63, u64, u65, u66, u67, u68, u69, u70, u71, u72], defers := [] } wq := by
  dsimp only [codeHead, codeTail, codeOf, Try.f34, Option.getD]
  subst hQ
  have W1 := hid' (fun W => whole_rt 1 W (by omega) (by omega))
  have W0 := hid' (fun W => whole_rt 0 W (by omega) (by omega))
  obtain ⟨r3, o3, l3, c3, R3, O3, M3, C3, k11, z3⟩ := V
  replace z3 := hid' z3
  have x0 := k11.c0
  have x1 := k11.c1
  have x2 := k11.c2
  have x3 := k11.c3
  go_wp2_with fail
  refine (rsign_rt _ T D 18 _ z3.out).mono ?_
  rintro e w1 ⟨rfl, g1⟩
  dsimp only
  replace kR := kR.mono g1 kR.lt
  replace hB := hB.trans (g1.mono hB.size)
  replace k11 := k11.mono g1 k11.lt
  replace z3 := hid' (z3.out.mono g1)
  clear g1 x0 x1 x2 x3
  have q1 := @cmp_lt0 T 0
  generalize cmpI T 0 = C1 at *
  by_cases p1 : T < 0
  · have hc := q1.out.mpr p1
    have e := hid' (E1.out p1)
    clear q1 E1 E2 E3 k11 z3 W1
    go_wp2_with fail
    refine (W0.out _).mono ?_
    rintro e w2 ⟨z, rfl, hz, g2⟩
    obtain ⟨r5, o5, l5, c5, R5, O5, M5, C5, rfl, z5⟩ := hz.shape
    dsimp only
    replace kR := kR.mono g2 kR.lt
    replace hB := hB.trans (g2.mono hB.size)
    clear g2 hz W0
    have d0 := kR.c0
    have d1 := kR.c1
    have d2 := kR.c2
    have d3 := kR.c3
    have df := kR.f
    go_wp2
    refine bodyPost_ret (v := .agg #[.bool r5, .slice o5 l5 c5, .bool R5, .slice O5 M5 C5]) (by simp [results, Try.results34, go_sem, d0, d1, d2, d3]) rfl ⟨_, rfl, ?_, ?_⟩
    · exact ((z5.out.le (by omega : 2 ≤ 18)).setQ kR _ _ _ _).to e.out.1.symm e.out.2.symm
    · exact (((hB.setCell (by simp only []; omega) _).setCell (by simp only []; omega) _).setCell (by simp only []; omega) _).setCell (by simp only []; omega) _
  have hc1 : 0 ≤ C1 := Int.not_lt.mp (fun g => p1 (q1.out.mp g))
  clear q1 E1
  go_upto_region 10 with fail
  have hS0 : Hid (SQ X11 (.bool r3) (.slice o3 l3 c3) (.bool R3) (.slice O3 M3 C3) w1.drew) := ⟨k11.c0, k11.c1, k11.c2, k11.c3⟩
  have zd := hid' (z3.out.mono (Below.refl _ _).drew)
  have kRd : Q4 w1.drew R (.bool false) (.slice none 0 0) (.bool false) (.slice none 0 0) := kR
  have hBd : Below w.heap.size w w1.drew := hB.drew
  have k11d : Q4 w1.drew X11 (.bool r3) (.slice o3 l3 c3) (.bool R3) (.slice O3 M3 C3) := k11
  clear k11 z3 kR hB
  go_region_held3 (SQ X11 (.bool r3) (.slice o3 l3 c3) (.bool R3) (.slice O3 M3 C3))
    (repeat (first | with_reducible exact hS3.out | with_reducible exact hS2.out | with_reducible exact hS0.out))
    (first
      | (go_at_call 27; refine (rcmp_rt _ _ T D 1 1 18 2 _ zd.out zw.out (by omega)).mono ?_; rintro e y3 ⟨rfl, g3⟩; have hS3 : Hid (SQ X11 (.bool r3) (.slice o3 l3 c3) (.bool R3) (.slice O3 M3 C3) y3) := SQ.call hS2.out g3; replace zd := hid' (zd.out.mono g3); replace k11d := k11d.mono g3 k11d.lt; replace kRd := kRd.mono g3 kRd.lt; replace hBd := hBd.trans (g3.mono hBd.size))
      | (go_at_call 26; refine (W1.out _).mono ?_; rintro e y2 ⟨z, rfl, hz, g2⟩; obtain ⟨r2, o2, l2, c2, R2, O2, M2, C2, rfl, zw⟩ := hz.shape; clear hz; replace zd := hid' (zd.out.mono g2); have hS2 : Hid (SQ X11 (.bool r3) (.slice o3 l3 c3) (.bool R3) (.slice O3 M3 C3) y2) := SQ.call hS0.out g2; replace k11d := k11d.mono g2 k11d.lt; replace kRd := kRd.mono g2 kRd.lt; replace hBd := hBd.trans (g2.mono hBd.size)))
  have kR := kRd
  have hB := hBd
  have k11 := k11d
  clear kRd hBd k11d hS0 hS2 hS3
  have q2 := @cmp_gt0 T D
  generalize cmpI T D = C2' at *
  by_cases p2 : D < T
  · have hc := q2.out.mpr p2
    have e := hid' (E2.out (by omega) p2)
    clear q2 E2 E3 k11 zd
    go_wp2_with fail
    refine (W1.out _).mono ?_
    rintro e w2 ⟨z, rfl, hz, g2⟩
    obtain ⟨r5, o5, l5, c5, R5, O5, M5, C5, rfl, z5⟩ := hz.shape
    dsimp only
    replace kR := kR.mono g2 kR.lt
    replace hB := hB.trans (g2.mono hB.size)
    clear g2 hz W0
    have d0 := kR.c0
    have d1 := kR.c1
    have d2 := kR.c2
    have d3 := kR.c3
    have df := kR.f
    go_wp2
    refine bodyPost_ret (v := .agg #[.bool r5, .slice o5 l5 c5, .bool R5, .slice O5 M5 C5]) (by simp [results, Try.results34, go_sem, d0, d1, d2, d3]) rfl ⟨_, rfl, ?_, ?_⟩
    · exact ((z5.out.le (by omega : 2 ≤ 18)).setQ kR _ _ _ _).to e.out.1.symm e.out.2.symm
    · exact (((hB.setCell (by simp only []; omega) _).setCell (by simp only []; omega) _).setCell (by simp only []; omega) _).setCell (by simp only []; omega) _
  have hc2 : C2' ≤ 0 := Int.not_lt.mp (fun g => p2 (q2.out.mp g))
  have e := hid' (E3.out (by omega) (by omega))
  have x0 := k11.c0
  have x1 := k11.c1
  have x2 := k11.c2
  have x3 := k11.c3
  clear q2 E2 E3 W0 W1 k11
  have d0 := kR.c0
  have d1 := kR.c1
  have d2 := kR.c2
  have d3 := kR.c3
  have df := kR.f
  go_wp2
  refine bodyPost_ret (v := .agg #[.bool r3, .slice o3 l3 c3, .bool R3, .slice O3 M3 C3]) (by simp [results, Try.results34, go_sem, d0, d1, d2, d3]) rfl ⟨_, rfl, ?_, ?_⟩
  · exact (zd.out.setQ kR _ _ _ _).to e.out.1.symm e.out.2.symm
  · exact (((hB.setCell (by simp only []; omega) _).setCell (by simp only []; omega) _).setCell (by simp only []; omega) _).setCell (by simp only []; omega) _
set_option maxRecDepth 20000 in
set_option maxHeartbeats 4000000 in
theorem foot_b {u0 u1 u2 u3 u4 u5 u11 u12 u13 u14 u15 u16 u17 u18 u19 u20 u21 u22 u23 u24 u25 u26 u27 u28 u29 u30 u31 u32 u33 u34 u35 u36 u37 u38 u39 u40 u41 u42 u43 u44 u45 u46 u47 u48 u49 u50 u51 u52 u53 u54 u55 u56 u57 u58 u59 u60 u61 u62 u63 u64 u65 u66 u67 u68 u69 u70 u71 u72 : Value} (w wq : World) (R : Nat) (fn fd : Int) (X7 X8 X9 X10 : Nat) (ux uy ox oy T D : Int) (hR : w.heap.size ≤ R) (kR : Q4 wq R (.bool false) (.slice none 0 0) (.bool false) (.slice none 0 0)) (hB : Below w.heap.size w wq) (V7 : VL wq X7 ux 1 2) (V8 : VL wq X8 uy 1 2) (V9 : VL wq X9 ox 1 2) (V10 : VL wq X10 oy 1 2) (hT : Hid (ux * ox + uy * oy = T)) (hD : Hid (ux * ux + uy * uy = D)) (h0 : 0 < D) (E1 : Hid (T < 0 → fn = 0 ∧ fd = 1)) (E2 : Hid (0 ≤ T → D < T → fn = 1 ∧ fd = 1)) (E3 : Hid (0 ≤ T → T ≤ D → fn = T ∧ fd = D)) (Q : Exit → Act → World → Prop) (hQ : Q = bodyPost Try.prog Try.f34 (fun e w' => ∃ z, e = .returned z ∧ Rt w' z fn fd 18 ∧ Below w.heap.size w w')) (K : Act → World → Prop) (hK : ∀ a w, Code.wp Try.prog (codeTail 7 (codeOf Try.f34)) Q a w → K a w) :
    Code.wp Try.prog (codeHead 6 (codeOf Try.f34)) (Exit.then K Q) { tmps := #[u0, u1, u2, u3, u4, u5, .pointer (some ⟨R, 0, none⟩), .pointer (some ⟨X7, 0, none⟩), .pointer (some ⟨X8, 0, none⟩), .pointer (some ⟨X9, 0, none⟩), .pointer (some ⟨X10, 0, none⟩), u11, u12, u13, u14, u15, u16, u17, u18, u19, u20, u21, u22, u23, u24, u25, u26, u27, u28, u29, u30, u31, u32, u33, u34, u35, u36, u37, u38, u39, u40, u41, u42, u43, u44, u45, u46, u47, u48, u49, u50, u51, u52, u53, u54, u55, u56, u57, u58, u59, u60, u61, u62, u63, u64, u65, u66, u67, u68, u69, u70, u71, u72], defers := [] } wq := by
  dsimp only [codeHead, codeTail, codeOf, Try.f34, Option.getD] at hK ⊢
  subst hQ
  obtain ⟨r7, o7, l7, c7, R7, O7, M7, C7, k7, zb7⟩ := V7
  replace zb7 := hid' zb7
  obtain ⟨r8, o8, l8, c8, R8, O8, M8, C8, k8, zb8⟩ := V8
  replace zb8 := hid' zb8
  obtain ⟨r9, o9, l9, c9, R9, O9, M9, C9, k9, zb9⟩ := V9
  replace zb9 := hid' zb9
  obtain ⟨r10, o10, l10, c10, R10, O10, M10, C10, k10, zb10⟩ := V10
  replace zb10 := hid' zb10
  have hL : wq.heap.size ≤ wq.heap.size := Nat.le_refl _
  have hlt : Hid (Addr.block ⟨X7, 0, none⟩ < wq.heap.size ∧ Addr.block ⟨X7, 1, none⟩ < wq.heap.size ∧ Addr.block ⟨X7, 2, none⟩ < wq.heap.size ∧ Addr.block ⟨X7, 3, none⟩ < wq.heap.size ∧ Addr.block ⟨X8, 0, none⟩ < wq.heap.size ∧ Addr.block ⟨X8, 1, none⟩ < wq.heap.size ∧ Addr.block ⟨X8, 2, none⟩ < wq.heap.size ∧ Addr.block ⟨X8, 3, none⟩ < wq.heap.size ∧ Addr.block ⟨X9, 0, none⟩ < wq.heap.size ∧ Addr.block ⟨X9, 1, none⟩ < wq.heap.size ∧ Addr.block ⟨X9, 2, none⟩ < wq.heap.size ∧ Addr.block ⟨X9, 3, none⟩ < wq.heap.size ∧ Addr.block ⟨X10, 0, none⟩ < wq.heap.size ∧ Addr.block ⟨X10, 1, none⟩ < wq.heap.size ∧ Addr.block ⟨X10, 2, none⟩ < wq.heap.size ∧ Addr.block ⟨X10, 3, none⟩ < wq.heap.size) := ⟨k7.lt, k7.lt, k7.lt, k7.lt, k8.lt, k8.lt, k8.lt, k8.lt, k9.lt, k9.lt, k9.lt, k9.lt, k10.lt, k10.lt, k10.lt, k10.lt⟩
  have BW : Hid (Below wq.heap.size wq wq) := Below.refl _ _
  have B0 : Hid (Below wq.heap.size wq wq.drew) := (Below.refl _ _).drew
  have hSW : Hid (T16 ⟨X7, 0, none⟩ ⟨X7, 1, none⟩ ⟨X7, 2, none⟩ ⟨X7, 3, none⟩ ⟨X8, 0, none⟩ ⟨X8, 1, none⟩ ⟨X8, 2, none⟩ ⟨X8, 3, none⟩ ⟨X9, 0, none⟩ ⟨X9, 1, none⟩ ⟨X9, 2, none⟩ ⟨X9, 3, none⟩ ⟨X10, 0, none⟩ ⟨X10, 1, none⟩ ⟨X10, 2, none⟩ ⟨X10, 3, none⟩ (.bool r7) (.slice o7 l7 c7) (.bool R7) (.slice O7 M7 C7) (.bool r8) (.slice o8 l8 c8) (.bool R8) (.slice O8 M8 C8) (.bool r9) (.slice o9 l9 c9) (.bool R9) (.slice O9 M9 C9) (.bool r10) (.slice o10 l10 c10) (.bool R10) (.slice O10 M10 C10) wq.heap.size wq wq) := ⟨k7.c0, k7.c1, k7.c2, k7.c3, k8.c0, k8.c1, k8.c2, k8.c3, k9.c0, k9.c1, k9.c2, k9.c3, k10.c0, k10.c1, k10.c2, k10.c3, Below.refl _ _⟩
  have hS0 : Hid (T16 ⟨X7, 0, none⟩ ⟨X7, 1, none⟩ ⟨X7, 2, none⟩ ⟨X7, 3, none⟩ ⟨X8, 0, none⟩ ⟨X8, 1, none⟩ ⟨X8, 2, none⟩ ⟨X8, 3, none⟩ ⟨X9, 0, none⟩ ⟨X9, 1, none⟩ ⟨X9, 2, none⟩ ⟨X9, 3, none⟩ ⟨X10, 0, none⟩ ⟨X10, 1, none⟩ ⟨X10, 2, none⟩ ⟨X10, 3, none⟩ (.bool r7) (.slice o7 l7 c7) (.bool R7) (.slice O7 M7 C7) (.bool r8) (.slice o8 l8 c8) (.bool R8) (.slice O8 M8 C8) (.bool r9) (.slice o9 l9 c9) (.bool R9) (.slice O9 M9 C9) (.bool r10) (.slice o10 l10 c10) (.bool R10) (.slice O10 M10 C10) wq.heap.size wq wq.drew) := T16.dr hSW.out
  have FIN : Hid (∀ W', Below wq.heap.size wq W' → Q4 W' R (.bool false) (.slice none 0 0) (.bool false) (.slice none 0 0) ∧ Below w.heap.size w W') := fun W' g => ⟨kR.mono g kR.lt, hB.trans (g.mono hB.size)⟩
  clear kR hB k7 k8 k9 k10
  go_region_held3 (T16 ⟨X7, 0, none⟩ ⟨X7, 1, none⟩ ⟨X7, 2, none⟩ ⟨X7, 3, none⟩ ⟨X8, 0, none⟩ ⟨X8, 1, none⟩ ⟨X8, 2, none⟩ ⟨X8, 3, none⟩ ⟨X9, 0, none⟩ ⟨X9, 1, none⟩ ⟨X9, 2, none⟩ ⟨X9, 3, none⟩ ⟨X10, 0, none⟩ ⟨X10, 1, none⟩ ⟨X10, 2, none⟩ ⟨X10, 3, none⟩ (.bool r7) (.slice o7 l7 c7) (.bool R7) (.slice O7 M7 C7) (.bool r8) (.slice o8 l8 c8) (.bool R8) (.slice O8 M8 C8) (.bool r9) (.slice o9 l9 c9) (.bool R9) (.slice O9 M9 C9) (.bool r10) (.slice o10 l10 c10) (.bool R10) (.slice O10 M10 C10) wq.heap.size wq)
    (repeat (first | with_reducible exact hS7.out | with_reducible exact hS6.out | with_reducible exact hS5.out | with_reducible exact hS4.out | with_reducible exact hS3.out | with_reducible exact hS2.out | with_reducible exact hS1.out | with_reducible exact hS0.out | with_reducible exact hSW.out | (with_reducible refine T16.set ?_ (by simp only []; omega) hlt.out _) | (with_reducible refine T16.al ?_ hL _) | (with_reducible refine T16.dr ?_)))
    (first
        | (have _n := z6; go_at_call 25; refine (rquo_rt _ _ T 1 D 1 9 9 _ (by first | with_reducible exact z3.out | with_reducible exact z3.out.al _) (by first | with_reducible exact z6.out | with_reducible exact z6.out.al _) (by omega)).mono ?_; rintro e y7 ⟨zz, rfl, hz, g7⟩; obtain ⟨r7q, o7q, l7q, c7q, R7q, O7q, M7q, C7q, rfl, z7⟩ := hz.shape; clear hz; replace z7 : Hid (Rt y7 (.agg #[.bool r7q, .slice o7q l7q c7q, .bool R7q, .slice O7q M7q C7q]) T D 18) := hid' (z7.out.to (by rw [quo_sg]; unfold sgN; rw [if_neg (by omega)]) (by rw [quo_sd]; unfold sgN; rw [if_neg (by omega)])); have B7 : Hid (Below wq.heap.size wq y7) := hid' (Below.trans (by (repeat (first | with_reducible exact B7.out | with_reducible exact B6.out | with_reducible exact B5.out | with_reducible exact B4.out | with_reducible exact B3.out | with_reducible exact B2.out | with_reducible exact B1.out | with_reducible exact B0.out | with_reducible exact BW.out | (with_reducible refine bl_drew ?_) | (with_reducible refine bl_alloc ?_ _)))) (g7.mono (Below.size (by (repeat (first | with_reducible exact B7.out | with_reducible exact B6.out | with_reducible exact B5.out | with_reducible exact B4.out | with_reducible exact B3.out | with_reducible exact B2.out | with_reducible exact B1.out | with_reducible exact B0.out | with_reducible exact BW.out | (with_reducible refine bl_drew ?_) | (with_reducible refine bl_alloc ?_ _))))))); have s7 := B7.out.size; have hS7 : Hid (T16 ⟨X7, 0, none⟩ ⟨X7, 1, none⟩ ⟨X7, 2, none⟩ ⟨X7, 3, none⟩ ⟨X8, 0, none⟩ ⟨X8, 1, none⟩ ⟨X8, 2, none⟩ ⟨X8, 3, none⟩ ⟨X9, 0, none⟩ ⟨X9, 1, none⟩ ⟨X9, 2, none⟩ ⟨X9, 3, none⟩ ⟨X10, 0, none⟩ ⟨X10, 1, none⟩ ⟨X10, 2, none⟩ ⟨X10, 3, none⟩ (.bool r7) (.slice o7 l7 c7) (.bool R7) (.slice O7 M7 C7) (.bool r8) (.slice o8 l8 c8) (.bool R8) (.slice O8 M8 C8) (.bool r9) (.slice o9 l9 c9) (.bool R9) (.slice O9 M9 C9) (.bool r10) (.slice o10 l10 c10) (.bool R10) (.slice O10 M10 C10) wq.heap.size wq y7) := ⟨below_cell hSW.out.1 B7.out, below_cell hSW.out.2.1 B7.out, below_cell hSW.out.2.2.1 B7.out, below_cell hSW.out.2.2.2.1 B7.out, below_cell hSW.out.2.2.2.2.1 B7.out, below_cell hSW.out.2.2.2.2.2.1 B7.out, below_cell hSW.out.2.2.2.2.2.2.1 B7.out, below_cell hSW.out.2.2.2.2.2.2.2.1 B7.out, below_cell hSW.out.2.2.2.2.2.2.2.2.1 B7.out, below_cell hSW.out.2.2.2.2.2.2.2.2.2.1 B7.out, below_cell hSW.out.2.2.2.2.2.2.2.2.2.2.1 B7.out, below_cell hSW.out.2.2.2.2.2.2.2.2.2.2.2.1 B7.out, below_cell hSW.out.2.2.2.2.2.2.2.2.2.2.2.2.1 B7.out, below_cell hSW.out.2.2.2.2.2.2.2.2.2.2.2.2.2.1 B7.out, below_cell hSW.out.2.2.2.2.2.2.2.2.2.2.2.2.2.2.1 B7.out, below_cell hSW.out.2.2.2.2.2.2.2.2.2.2.2.2.2.2.2.1 B7.out, B7.out⟩; first | (have m7 := m6.mono g7 m6.lt; have e7_0 := m7.c0; have e7_1 := m7.c1; have e7_2 := m7.c2; have e7_3 := m7.c3; have e7_f := m7.f) | (have m7 : Q4 y7 y6.heap.size (.bool false) (.slice none 0 0) (.bool false) (.slice none 0 0) := (by with_reducible exact Q4.nx g7); have e7_0 := m7.c0; have e7_1 := m7.c1; have e7_2 := m7.c2; have e7_3 := m7.c3; have e7_f := m7.f) | skip)
        | (have _n := z5; go_at_call 38; refine (radd_rt _ _ (ux * ux) 1 (uy * uy) 1 4 4 _ (by first | with_reducible exact z4.out | with_reducible exact z4.out.al _) (by first | with_reducible exact z5.out | with_reducible exact z5.out.al _) (by omega)).mono ?_; rintro e y6 ⟨zz, rfl, hz, g6⟩; obtain ⟨r6q, o6q, l6q, c6q, R6q, O6q, M6q, C6q, rfl, z6⟩ := hz.shape; clear hz; replace z6 : Hid (Rt y6 (.agg #[.bool r6q, .slice o6q l6q c6q, .bool R6q, .slice O6q M6q C6q]) D 1 9) := hid' (z6.out.to (by rw [Int.mul_one, Int.mul_one]; exact hD.out) (Int.one_mul 1)); have B6 : Hid (Below wq.heap.size wq y6) := hid' (Below.trans (by (repeat (first | with_reducible exact B7.out | with_reducible exact B6.out | with_reducible exact B5.out | with_reducible exact B4.out | with_reducible exact B3.out | with_reducible exact B2.out | with_reducible exact B1.out | with_reducible exact B0.out | with_reducible exact BW.out | (with_reducible refine bl_drew ?_) | (with_reducible refine bl_alloc ?_ _)))) (g6.mono (Below.size (by (repeat (first | with_reducible exact B7.out | with_reducible exact B6.out | with_reducible exact B5.out | with_reducible exact B4.out | with_reducible exact B3.out | with_reducible exact B2.out | with_reducible exact B1.out | with_reducible exact B0.out | with_reducible exact BW.out | (with_reducible refine bl_drew ?_) | (with_reducible refine bl_alloc ?_ _))))))); have s6 := B6.out.size; have hS6 : Hid (T16 ⟨X7, 0, none⟩ ⟨X7, 1, none⟩ ⟨X7, 2, none⟩ ⟨X7, 3, none⟩ ⟨X8, 0, none⟩ ⟨X8, 1, none⟩ ⟨X8, 2, none⟩ ⟨X8, 3, none⟩ ⟨X9, 0, none⟩ ⟨X9, 1, none⟩ ⟨X9, 2, none⟩ ⟨X9, 3, none⟩ ⟨X10, 0, none⟩ ⟨X10, 1, none⟩ ⟨X10, 2, none⟩ ⟨X10, 3, none⟩ (.bool r7) (.slice o7 l7 c7) (.bool R7) (.slice O7 M7 C7) (.bool r8) (.slice o8 l8 c8) (.bool R8) (.slice O8 M8 C8) (.bool r9) (.slice o9 l9 c9) (.bool R9) (.slice O9 M9 C9) (.bool r10) (.slice o10 l10 c10) (.bool R10) (.slice O10 M10 C10) wq.heap.size wq y6) := ⟨below_cell hSW.out.1 B6.out, below_cell hSW.out.2.1 B6.out, below_cell hSW.out.2.2.1 B6.out, below_cell hSW.out.2.2.2.1 B6.out, below_cell hSW.out.2.2.2.2.1 B6.out, below_cell hSW.out.2.2.2.2.2.1 B6.out, below_cell hSW.out.2.2.2.2.2.2.1 B6.out, below_cell hSW.out.2.2.2.2.2.2.2.1 B6.out, below_cell hSW.out.2.2.2.2.2.2.2.2.1 B6.out, below_cell hSW.out.2.2.2.2.2.2.2.2.2.1 B6.out, below_cell hSW.out.2.2.2.2.2.2.2.2.2.2.1 B6.out, below_cell hSW.out.2.2.2.2.2.2.2.2.2.2.2.1 B6.out, below_cell hSW.out.2.2.2.2.2.2.2.2.2.2.2.2.1 B6.out, below_cell hSW.out.2.2.2.2.2.2.2.2.2.2.2.2.2.1 B6.out, below_cell hSW.out.2.2.2.2.2.2.2.2.2.2.2.2.2.2.1 B6.out, below_cell hSW.out.2.2.2.2.2.2.2.2.2.2.2.2.2.2.2.1 B6.out, B6.out⟩; have zn3 : Rt y6 (.agg #[.bool r3q, .slice o3q l3q c3q, .bool R3q, .slice O3q M3q C3q]) T 1 9 := Rt.mono (by first | with_reducible exact z3.out | with_reducible exact z3.out.al _) g6; replace z3 := hid' zn3; clear zn3; first | (have m6 := m5.mono g6 m5.lt; have e6_0 := m6.c0; have e6_1 := m6.c1; have e6_2 := m6.c2; have e6_3 := m6.c3; have e6_f := m6.f) | (have m6 : Q4 y6 y5.heap.size (.bool false) (.slice none 0 0) (.bool false) (.slice none 0 0) := (by with_reducible exact Q4.nx g6); have e6_0 := m6.c0; have e6_1 := m6.c1; have e6_2 := m6.c2; have e6_3 := m6.c3; have e6_f := m6.f) | skip)
        | (have _n := z4; go_at_call 39; refine (rmul_rt _ _ uy 1 uy 1 2 2 _ (zb8.out.mono (by (repeat (first | with_reducible exact B7.out | with_reducible exact B6.out | with_reducible exact B5.out | with_reducible exact B4.out | with_reducible exact B3.out | with_reducible exact B2.out | with_reducible exact B1.out | with_reducible exact B0.out | with_reducible exact BW.out | (with_reducible refine bl_drew ?_) | (with_reducible refine bl_alloc ?_ _))))) (zb8.out.mono (by (repeat (first | with_reducible exact B7.out | with_reducible exact B6.out | with_reducible exact B5.out | with_reducible exact B4.out | with_reducible exact B3.out | with_reducible exact B2.out | with_reducible exact B1.out | with_reducible exact B0.out | with_reducible exact BW.out | (with_reducible refine bl_drew ?_) | (with_reducible refine bl_alloc ?_ _))))) (by omega) (by omega)).mono ?_; rintro e y5 ⟨zz, rfl, hz, g5⟩; obtain ⟨r5q, o5q, l5q, c5q, R5q, O5q, M5q, C5q, rfl, z5⟩ := hz.shape; clear hz; replace z5 : Hid (Rt y5 (.agg #[.bool r5q, .slice o5q l5q c5q, .bool R5q, .slice O5q M5q C5q]) (uy * uy) 1 4) := hid' (z5.out.to rfl (Int.one_mul 1)); have B5 : Hid (Below wq.heap.size wq y5) := hid' (Below.trans (by (repeat (first | with_reducible exact B7.out | with_reducible exact B6.out | with_reducible exact B5.out | with_reducible exact B4.out | with_reducible exact B3.out | with_reducible exact B2.out | with_reducible exact B1.out | with_reducible exact B0.out | with_reducible exact BW.out | (with_reducible refine bl_drew ?_) | (with_reducible refine bl_alloc ?_ _)))) (g5.mono (Below.size (by (repeat (first | with_reducible exact B7.out | with_reducible exact B6.out | with_reducible exact B5.out | with_reducible exact B4.out | with_reducible exact B3.out | with_reducible exact B2.out | with_reducible exact B1.out | with_reducible exact B0.out | with_reducible exact BW.out | (with_reducible refine bl_drew ?_) | (with_reducible refine bl_alloc ?_ _))))))); have s5 := B5.out.size; have hS5 : Hid (T16 ⟨X7, 0, none⟩ ⟨X7, 1, none⟩ ⟨X7, 2, none⟩ ⟨X7, 3, none⟩ ⟨X8, 0, none⟩ ⟨X8, 1, none⟩ ⟨X8, 2, none⟩ ⟨X8, 3, none⟩ ⟨X9, 0, none⟩ ⟨X9, 1, none⟩ ⟨X9, 2, none⟩ ⟨X9, 3, none⟩ ⟨X10, 0, none⟩ ⟨X10, 1, none⟩ ⟨X10, 2, none⟩ ⟨X10, 3, none⟩ (.bool r7) (.slice o7 l7 c7) (.bool R7) (.slice O7 M7 C7) (.bool r8) (.slice o8 l8 c8) (.bool R8) (.slice O8 M8 C8) (.bool r9) (.slice o9 l9 c9) (.bool R9) (.slice O9 M9 C9) (.bool r10) (.slice o10 l10 c10) (.bool R10) (.slice O10 M10 C10) wq.heap.size wq y5) := ⟨below_cell hSW.out.1 B5.out, below_cell hSW.out.2.1 B5.out, below_cell hSW.out.2.2.1 B5.out, below_cell hSW.out.2.2.2.1 B5.out, below_cell hSW.out.2.2.2.2.1 B5.out, below_cell hSW.out.2.2.2.2.2.1 B5.out, below_cell hSW.out.2.2.2.2.2.2.1 B5.out, below_cell hSW.out.2.2.2.2.2.2.2.1 B5.out, below_cell hSW.out.2.2.2.2.2.2.2.2.1 B5.out, below_cell hSW.out.2.2.2.2.2.2.2.2.2.1 B5.out, below_cell hSW.out.2.2.2.2.2.2.2.2.2.2.1 B5.out, below_cell hSW.out.2.2.2.2.2.2.2.2.2.2.2.1 B5.out, below_cell hSW.out.2.2.2.2.2.2.2.2.2.2.2.2.1 B5.out, below_cell hSW.out.2.2.2.2.2.2.2.2.2.2.2.2.2.1 B5.out, below_cell hSW.out.2.2.2.2.2.2.2.2.2.2.2.2.2.2.1 B5.out, below_cell hSW.out.2.2.2.2.2.2.2.2.2.2.2.2.2.2.2.1 B5.out, B5.out⟩; have zn3 : Rt y5 (.agg #[.bool r3q, .slice o3q l3q c3q, .bool R3q, .slice O3q M3q C3q]) T 1 9 := Rt.mono (by first | with_reducible exact z3.out | with_reducible exact z3.out.al _) g5; replace z3 := hid' zn3; clear zn3; have zn4 : Rt y5 (.agg #[.bool r4q, .slice o4q l4q c4q, .bool R4q, .slice O4q M4q C4q]) (ux * ux) 1 4 := Rt.mono (by first | with_reducible exact z4.out | with_reducible exact z4.out.al _) g5; replace z4 := hid' zn4; clear zn4; first | (have m5 := m4.mono g5 m4.lt; have e5_0 := m5.c0; have e5_1 := m5.c1; have e5_2 := m5.c2; have e5_3 := m5.c3; have e5_f := m5.f) | (have m5 : Q4 y5 y4.heap.size (.bool false) (.slice none 0 0) (.bool false) (.slice none 0 0) := (by with_reducible exact Q4.nx g5); have e5_0 := m5.c0; have e5_1 := m5.c1; have e5_2 := m5.c2; have e5_3 := m5.c3; have e5_f := m5.f) | skip)
        | (have _n := z3; go_at_call 39; refine (rmul_rt _ _ ux 1 ux 1 2 2 _ (zb7.out.mono (by (repeat (first | with_reducible exact B7.out | with_reducible exact B6.out | with_reducible exact B5.out | with_reducible exact B4.out | with_reducible exact B3.out | with_reducible exact B2.out | with_reducible exact B1.out | with_reducible exact B0.out | with_reducible exact BW.out | (with_reducible refine bl_drew ?_) | (with_reducible refine bl_alloc ?_ _))))) (zb7.out.mono (by (repeat (first | with_reducible exact B7.out | with_reducible exact B6.out | with_reducible exact B5.out | with_reducible exact B4.out | with_reducible exact B3.out | with_reducible exact B2.out | with_reducible exact B1.out | with_reducible exact B0.out | with_reducible exact BW.out | (with_reducible refine bl_drew ?_) | (with_reducible refine bl_alloc ?_ _))))) (by omega) (by omega)).mono ?_; rintro e y4 ⟨zz, rfl, hz, g4⟩; obtain ⟨r4q, o4q, l4q, c4q, R4q, O4q, M4q, C4q, rfl, z4⟩ := hz.shape; clear hz; replace z4 : Hid (Rt y4 (.agg #[.bool r4q, .slice o4q l4q c4q, .bool R4q, .slice O4q M4q C4q]) (ux * ux) 1 4) := hid' (z4.out.to rfl (Int.one_mul 1)); have B4 : Hid (Below wq.heap.size wq y4) := hid' (Below.trans (by (repeat (first | with_reducible exact B7.out | with_reducible exact B6.out | with_reducible exact B5.out | with_reducible exact B4.out | with_reducible exact B3.out | with_reducible exact B2.out | with_reducible exact B1.out | with_reducible exact B0.out | with_reducible exact BW.out | (with_reducible refine bl_drew ?_) | (with_reducible refine bl_alloc ?_ _)))) (g4.mono (Below.size (by (repeat (first | with_reducible exact B7.out | with_reducible exact B6.out | with_reducible exact B5.out | with_reducible exact B4.out | with_reducible exact B3.out | with_reducible exact B2.out | with_reducible exact B1.out | with_reducible exact B0.out | with_reducible exact BW.out | (with_reducible refine bl_drew ?_) | (with_reducible refine bl_alloc ?_ _))))))); have s4 := B4.out.size; have hS4 : Hid (T16 ⟨X7, 0, none⟩ ⟨X7, 1, none⟩ ⟨X7, 2, none⟩ ⟨X7, 3, none⟩ ⟨X8, 0, none⟩ ⟨X8, 1, none⟩ ⟨X8, 2, none⟩ ⟨X8, 3, none⟩ ⟨X9, 0, none⟩ ⟨X9, 1, none⟩ ⟨X9, 2, none⟩ ⟨X9, 3, none⟩ ⟨X10, 0, none⟩ ⟨X10, 1, none⟩ ⟨X10, 2, none⟩ ⟨X10, 3, none⟩ (.bool r7) (.slice o7 l7 c7) (.bool R7) (.slice O7 M7 C7) (.bool r8) (.slice o8 l8 c8) (.bool R8) (.slice O8 M8 C8) (.bool r9) (.slice o9 l9 c9) (.bool R9) (.slice O9 M9 C9) (.bool r10) (.slice o10 l10 c10) (.bool R10) (.slice O10 M10 C10) wq.heap.size wq y4) := ⟨below_cell hSW.out.1 B4.out, below_cell hSW.out.2.1 B4.out, below_cell hSW.out.2.2.1 B4.out, below_cell hSW.out.2.2.2.1 B4.out, below_cell hSW.out.2.2.2.2.1 B4.out, below_cell hSW.out.2.2.2.2.2.1 B4.out, below_cell hSW.out.2.2.2.2.2.2.1 B4.out, below_cell hSW.out.2.2.2.2.2.2.2.1 B4.out, below_cell hSW.out.2.2.2.2.2.2.2.2.1 B4.out, below_cell hSW.out.2.2.2.2.2.2.2.2.2.1 B4.out, below_cell hSW.out.2.2.2.2.2.2.2.2.2.2.1 B4.out, below_cell hSW.out.2.2.2.2.2.2.2.2.2.2.2.1 B4.out, below_cell hSW.out.2.2.2.2.2.2.2.2.2.2.2.2.1 B4.out, below_cell hSW.out.2.2.2.2.2.2.2.2.2.2.2.2.2.1 B4.out, below_cell hSW.out.2.2.2.2.2.2.2.2.2.2.2.2.2.2.1 B4.out, below_cell hSW.out.2.2.2.2.2.2.2.2.2.2.2.2.2.2.2.1 B4.out, B4.out⟩; have zn3 : Rt y4 (.agg #[.bool r3q, .slice o3q l3q c3q, .bool R3q, .slice O3q M3q C3q]) T 1 9 := Rt.mono (by first | with_reducible exact z3.out | with_reducible exact z3.out.al _) g4; replace z3 := hid' zn3; clear zn3; first | (have m4 := m3.mono g4 m3.lt; have e4_0 := m4.c0; have e4_1 := m4.c1; have e4_2 := m4.c2; have e4_3 := m4.c3; have e4_f := m4.f) | (have m4 : Q4 y4 y3.heap.size (.bool false) (.slice none 0 0) (.bool false) (.slice none 0 0) := (by with_reducible exact Q4.nx g4); have e4_0 := m4.c0; have e4_1 := m4.c1; have e4_2 := m4.c2; have e4_3 := m4.c3; have e4_f := m4.f) | skip)
        | (have _n := z2; go_at_call 38; refine (radd_rt _ _ (ux * ox) 1 (uy * oy) 1 4 4 _ (by first | with_reducible exact z1.out | with_reducible exact z1.out.al _) (by first | with_reducible exact z2.out | with_reducible exact z2.out.al _) (by omega)).mono ?_; rintro e y3 ⟨zz, rfl, hz, g3⟩; obtain ⟨r3q, o3q, l3q, c3q, R3q, O3q, M3q, C3q, rfl, z3⟩ := hz.shape; clear hz; replace z3 : Hid (Rt y3 (.agg #[.bool r3q, .slice o3q l3q c3q, .bool R3q, .slice O3q M3q C3q]) T 1 9) := hid' (z3.out.to (by rw [Int.mul_one, Int.mul_one]; exact hT.out) (Int.one_mul 1)); have B3 : Hid (Below wq.heap.size wq y3) := hid' (Below.trans (by (repeat (first | with_reducible exact B7.out | with_reducible exact B6.out | with_reducible exact B5.out | with_reducible exact B4.out | with_reducible exact B3.out | with_reducible exact B2.out | with_reducible exact B1.out | with_reducible exact B0.out | with_reducible exact BW.out | (with_reducible refine bl_drew ?_) | (with_reducible refine bl_alloc ?_ _)))) (g3.mono (Below.size (by (repeat (first | with_reducible exact B7.out | with_reducible exact B6.out | with_reducible exact B5.out | with_reducible exact B4.out | with_reducible exact B3.out | with_reducible exact B2.out | with_reducible exact B1.out | with_reducible exact B0.out | with_reducible exact BW.out | (with_reducible refine bl_drew ?_) | (with_reducible refine bl_alloc ?_ _))))))); have s3 := B3.out.size; have hS3 : Hid (T16 ⟨X7, 0, none⟩ ⟨X7, 1, none⟩ ⟨X7, 2, none⟩ ⟨X7, 3, none⟩ ⟨X8, 0, none⟩ ⟨X8, 1, none⟩ ⟨X8, 2, none⟩ ⟨X8, 3, none⟩ ⟨X9, 0, none⟩ ⟨X9, 1, none⟩ ⟨X9, 2, none⟩ ⟨X9, 3, none⟩ ⟨X10, 0, none⟩ ⟨X10, 1, none⟩ ⟨X10, 2, none⟩ ⟨X10, 3, none⟩ (.bool r7) (.slice o7 l7 c7) (.bool R7) (.slice O7 M7 C7) (.bool r8) (.slice o8 l8 c8) (.bool R8) (.slice O8 M8 C8) (.bool r9) (.slice o9 l9 c9) (.bool R9) (.slice O9 M9 C9) (.bool r10) (.slice o10 l10 c10) (.bool R10) (.slice O10 M10 C10) wq.heap.size wq y3) := ⟨below_cell hSW.out.1 B3.out, below_cell hSW.out.2.1 B3.out, below_cell hSW.out.2.2.1 B3.out, below_cell hSW.out.2.2.2.1 B3.out, below_cell hSW.out.2.2.2.2.1 B3.out, below_cell hSW.out.2.2.2.2.2.1 B3.out, below_cell hSW.out.2.2.2.2.2.2.1 B3.out, below_cell hSW.out.2.2.2.2.2.2.2.1 B3.out, below_cell hSW.out.2.2.2.2.2.2.2.2.1 B3.out, below_cell hSW.out.2.2.2.2.2.2.2.2.2.1 B3.out, below_cell hSW.out.2.2.2.2.2.2.2.2.2.2.1 B3.out, below_cell hSW.out.2.2.2.2.2.2.2.2.2.2.2.1 B3.out, below_cell hSW.out.2.2.2.2.2.2.2.2.2.2.2.2.1 B3.out, below_cell hSW.out.2.2.2.2.2.2.2.2.2.2.2.2.2.1 B3.out, below_cell hSW.out.2.2.2.2.2.2.2.2.2.2.2.2.2.2.1 B3.out, below_cell hSW.out.2.2.2.2.2.2.2.2.2.2.2.2.2.2.2.1 B3.out, B3.out⟩; first | (have m3 := m2.mono g3 m2.lt; have e3_0 := m3.c0; have e3_1 := m3.c1; have e3_2 := m3.c2; have e3_3 := m3.c3; have e3_f := m3.f) | (have m3 : Q4 y3 y2.heap.size (.bool false) (.slice none 0 0) (.bool false) (.slice none 0 0) := (by with_reducible exact Q4.nx g3); have e3_0 := m3.c0; have e3_1 := m3.c1; have e3_2 := m3.c2; have e3_3 := m3.c3; have e3_f := m3.f) | skip)
        | (have _n := z1; go_at_call 39; refine (rmul_rt _ _ uy 1 oy 1 2 2 _ (zb8.out.mono (by (repeat (first | with_reducible exact B7.out | with_reducible exact B6.out | with_reducible exact B5.out | with_reducible exact B4.out | with_reducible exact B3.out | with_reducible exact B2.out | with_reducible exact B1.out | with_reducible exact B0.out | with_reducible exact BW.out | (with_reducible refine bl_drew ?_) | (with_reducible refine bl_alloc ?_ _))))) (zb10.out.mono (by (repeat (first | with_reducible exact B7.out | with_reducible exact B6.out | with_reducible exact B5.out | with_reducible exact B4.out | with_reducible exact B3.out | with_reducible exact B2.out | with_reducible exact B1.out | with_reducible exact B0.out | with_reducible exact BW.out | (with_reducible refine bl_drew ?_) | (with_reducible refine bl_alloc ?_ _))))) (by omega) (by omega)).mono ?_; rintro e y2 ⟨zz, rfl, hz, g2⟩; obtain ⟨r2q, o2q, l2q, c2q, R2q, O2q, M2q, C2q, rfl, z2⟩ := hz.shape; clear hz; replace z2 : Hid (Rt y2 (.agg #[.bool r2q, .slice o2q l2q c2q, .bool R2q, .slice O2q M2q C2q]) (uy * oy) 1 4) := hid' (z2.out.to rfl (Int.one_mul 1)); have B2 : Hid (Below wq.heap.size wq y2) := hid' (Below.trans (by (repeat (first | with_reducible exact B7.out | with_reducible exact B6.out | with_reducible exact B5.out | with_reducible exact B4.out | with_reducible exact B3.out | with_reducible exact B2.out | with_reducible exact B1.out | with_reducible exact B0.out | with_reducible exact BW.out | (with_reducible refine bl_drew ?_) | (with_reducible refine bl_alloc ?_ _)))) (g2.mono (Below.size (by (repeat (first | with_reducible exact B7.out | with_reducible exact B6.out | with_reducible exact B5.out | with_reducible exact B4.out | with_reducible exact B3.out | with_reducible exact B2.out | with_reducible exact B1.out | with_reducible exact B0.out | with_reducible exact BW.out | (with_reducible refine bl_drew ?_) | (with_reducible refine bl_alloc ?_ _))))))); have s2 := B2.out.size; have hS2 : Hid (T16 ⟨X7, 0, none⟩ ⟨X7, 1, none⟩ ⟨X7, 2, none⟩ ⟨X7, 3, none⟩ ⟨X8, 0, none⟩ ⟨X8, 1, none⟩ ⟨X8, 2, none⟩ ⟨X8, 3, none⟩ ⟨X9, 0, none⟩ ⟨X9, 1, none⟩ ⟨X9, 2, none⟩ ⟨X9, 3, none⟩ ⟨X10, 0, none⟩ ⟨X10, 1, none⟩ ⟨X10, 2, none⟩ ⟨X10, 3, none⟩ (.bool r7) (.slice o7 l7 c7) (.bool R7) (.slice O7 M7 C7) (.bool r8) (.slice o8 l8 c8) (.bool R8) (.slice O8 M8 C8) (.bool r9) (.slice o9 l9 c9) (.bool R9) (.slice O9 M9 C9) (.bool r10) (.slice o10 l10 c10) (.bool R10) (.slice O10 M10 C10) wq.heap.size wq y2) := ⟨below_cell hSW.out.1 B2.out, below_cell hSW.out.2.1 B2.out, below_cell hSW.out.2.2.1 B2.out, below_cell hSW.out.2.2.2.1 B2.out, below_cell hSW.out.2.2.2.2.1 B2.out, below_cell hSW.out.2.2.2.2.2.1 B2.out, below_cell hSW.out.2.2.2.2.2.2.1 B2.out, below_cell hSW.out.2.2.2.2.2.2.2.1 B2.out, below_cell hSW.out.2.2.2.2.2.2.2.2.1 B2.out, below_cell hSW.out.2.2.2.2.2.2.2.2.2.1 B2.out, below_cell hSW.out.2.2.2.2.2.2.2.2.2.2.1 B2.out, below_cell hSW.out.2.2.2.2.2.2.2.2.2.2.2.1 B2.out, below_cell hSW.out.2.2.2.2.2.2.2.2.2.2.2.2.1 B2.out, below_cell hSW.out.2.2.2.2.2.2.2.2.2.2.2.2.2.1 B2.out, below_cell hSW.out.2.2.2.2.2.2.2.2.2.2.2.2.2.2.1 B2.out, below_cell hSW.out.2.2.2.2.2.2.2.2.2.2.2.2.2.2.2.1 B2.out, B2.out⟩; have zn1 : Rt y2 (.agg #[.bool r1q, .slice o1q l1q c1q, .bool R1q, .slice O1q M1q C1q]) (ux * ox) 1 4 := Rt.mono (by first | with_reducible exact z1.out | with_reducible exact z1.out.al _) g2; replace z1 := hid' zn1; clear zn1; first | (have m2 := m1.mono g2 m1.lt; have e2_0 := m2.c0; have e2_1 := m2.c1; have e2_2 := m2.c2; have e2_3 := m2.c3; have e2_f := m2.f) | (have m2 : Q4 y2 y1.heap.size (.bool false) (.slice none 0 0) (.bool false) (.slice none 0 0) := (by with_reducible exact Q4.nx g2); have e2_0 := m2.c0; have e2_1 := m2.c1; have e2_2 := m2.c2; have e2_3 := m2.c3; have e2_f := m2.f) | skip)
        | (go_at_call 39; refine (rmul_rt _ _ ux 1 ox 1 2 2 _ (zb7.out.mono (by (repeat (first | with_reducible exact B7.out | with_reducible exact B6.out | with_reducible exact B5.out | with_reducible exact B4.out | with_reducible exact B3.out | with_reducible exact B2.out | with_reducible exact B1.out | with_reducible exact B0.out | with_reducible exact BW.out | (with_reducible refine bl_drew ?_) | (with_reducible refine bl_alloc ?_ _))))) (zb9.out.mono (by (repeat (first | with_reducible exact B7.out | with_reducible exact B6.out | with_reducible exact B5.out | with_reducible exact B4.out | with_reducible exact B3.out | with_reducible exact B2.out | with_reducible exact B1.out | with_reducible exact B0.out | with_reducible exact BW.out | (with_reducible refine bl_drew ?_) | (with_reducible refine bl_alloc ?_ _))))) (by omega) (by omega)).mono ?_; rintro e y1 ⟨zz, rfl, hz, g1⟩; obtain ⟨r1q, o1q, l1q, c1q, R1q, O1q, M1q, C1q, rfl, z1⟩ := hz.shape; clear hz; replace z1 : Hid (Rt y1 (.agg #[.bool r1q, .slice o1q l1q c1q, .bool R1q, .slice O1q M1q C1q]) (ux * ox) 1 4) := hid' (z1.out.to rfl (Int.one_mul 1)); have B1 : Hid (Below wq.heap.size wq y1) := hid' (Below.trans (by (repeat (first | with_reducible exact B7.out | with_reducible exact B6.out | with_reducible exact B5.out | with_reducible exact B4.out | with_reducible exact B3.out | with_reducible exact B2.out | with_reducible exact B1.out | with_reducible exact B0.out | with_reducible exact BW.out | (with_reducible refine bl_drew ?_) | (with_reducible refine bl_alloc ?_ _)))) (g1.mono (Below.size (by (repeat (first | with_reducible exact B7.out | with_reducible exact B6.out | with_reducible exact B5.out | with_reducible exact B4.out | with_reducible exact B3.out | with_reducible exact B2.out | with_reducible exact B1.out | with_reducible exact B0.out | with_reducible exact BW.out | (with_reducible refine bl_drew ?_) | (with_reducible refine bl_alloc ?_ _))))))); have s1 := B1.out.size; have hS1 : Hid (T16 ⟨X7, 0, none⟩ ⟨X7, 1, none⟩ ⟨X7, 2, none⟩ ⟨X7, 3, none⟩ ⟨X8, 0, none⟩ ⟨X8, 1, none⟩ ⟨X8, 2, none⟩ ⟨X8, 3, none⟩ ⟨X9, 0, none⟩ ⟨X9, 1, none⟩ ⟨X9, 2, none⟩ ⟨X9, 3, none⟩ ⟨X10, 0, none⟩ ⟨X10, 1, none⟩ ⟨X10, 2, none⟩ ⟨X10, 3, none⟩ (.bool r7) (.slice o7 l7 c7) (.bool R7) (.slice O7 M7 C7) (.bool r8) (.slice o8 l8 c8) (.bool R8) (.slice O8 M8 C8) (.bool r9) (.slice o9 l9 c9) (.bool R9) (.slice O9 M9 C9) (.bool r10) (.slice o10 l10 c10) (.bool R10) (.slice O10 M10 C10) wq.heap.size wq y1) := ⟨below_cell hSW.out.1 B1.out, below_cell hSW.out.2.1 B1.out, below_cell hSW.out.2.2.1 B1.out, below_cell hSW.out.2.2.2.1 B1.out, below_cell hSW.out.2.2.2.2.1 B1.out, below_cell hSW.out.2.2.2.2.2.1 B1.out, below_cell hSW.out.2.2.2.2.2.2.1 B1.out, below_cell hSW.out.2.2.2.2.2.2.2.1 B1.out, below_cell hSW.out.2.2.2.2.2.2.2.2.1 B1.out, below_cell hSW.out.2.2.2.2.2.2.2.2.2.1 B1.out, below_cell hSW.out.2.2.2.2.2.2.2.2.2.2.1 B1.out, below_cell hSW.out.2.2.2.2.2.2.2.2.2.2.2.1 B1.out, below_cell hSW.out.2.2.2.2.2.2.2.2.2.2.2.2.1 B1.out, below_cell hSW.out.2.2.2.2.2.2.2.2.2.2.2.2.2.1 B1.out, below_cell hSW.out.2.2.2.2.2.2.2.2.2.2.2.2.2.2.1 B1.out, below_cell hSW.out.2.2.2.2.2.2.2.2.2.2.2.2.2.2.2.1 B1.out, B1.out⟩; first | (have m1 : Q4 y1 wq.heap.size (.bool false) (.slice none 0 0) (.bool false) (.slice none 0 0) := (by with_reducible exact Q4.nw g1); have e1_0 := m1.c0; have e1_1 := m1.c1; have e1_2 := m1.c2; have e1_3 := m1.c3; have e1_f := m1.f) | skip))
  · exact hK _ _ (foot_a w _ R fn fd _ T D hR (FIN.out _ (bl_alloc B7.out _)).1 (FIN.out _ (bl_alloc B7.out _)).2 (VL.new z7.out) E1 E2 E3 _ rfl)
  all_goals
    exact hK _ _ (foot_a w _ R fn fd _ T D hR (FIN.out _ (four_set B7.out (by omega))).1 (FIN.out _ (four_set B7.out (by omega))).2 (VL.put m7 z7.out) E1 E2 E3 _ rfl)
/-- What foot has in memory. -/
structure Fq (w w' : World) (p a b : P2) : Prop where
  p : TwoIs w' w.heap.size p.1 p.2
  a : TwoIs w' (w.heap.size + 1) a.1 a.2
  b : TwoIs w' (w.heap.size + 1 + 1) b.1 b.2
  r : Q4 w' (w.heap.size + 1 + 1 + 1) (.bool false) (.slice none 0 0) (.bool false) (.slice none 0 0)
  g : Below w.heap.size w w'
theorem Fq.mono {w w1 w2 : World} {p a b : P2} (h : Fq w w1 p a b) (g : Below w1.heap.size w1 w2) : Fq w w2 p a b :=
  ⟨⟨below_cell h.p.c0 g, below_cell h.p.c1 g⟩, ⟨below_cell h.a.c0 g, below_cell h.a.c1 g⟩, ⟨below_cell h.b.c0 g, below_cell h.b.c1 g⟩, h.r.mono g h.r.lt, h.g.trans (g.mono h.g.size)⟩
theorem Fq.new (w : World) (px py ax ay bx by_ : Int) : Fq w ((((w.alloc (.cells #[.int .i32 px, .int .i32 py] 23)).alloc (.cells #[.int .i32 ax, .int .i32 ay] 23)).alloc (.cells #[.int .i32 bx, .int .i32 by_] 23)).alloc (.cells #[.bool false, .slice none 0 0, .bool false, .slice none 0 0] 53)) (px, py) (ax, ay) (bx, by_) := by
  refine ⟨⟨by go_simp, by go_simp⟩, ⟨by go_simp, by go_simp⟩, ⟨by go_simp, by go_simp⟩, ?_, (((((Gr.refl _).alloc _).alloc _).alloc _).alloc _).below⟩
  have := Q4.new (((w.alloc (.cells #[.int .i32 px, .int .i32 py] 23)).alloc (.cells #[.int .i32 ax, .int .i32 ay] 23)).alloc (.cells #[.int .i32 bx, .int .i32 by_] 23)) (.bool false) (.slice none 0 0) (.bool false) (.slice none 0 0)
  simpa using this
set_option maxRecDepth 20000 in
set_option maxHeartbeats 4000000 in
theorem foot_same_rt (p a : P2) (w : World) : Calls Try.prog 34 #[ptv p, ptv a, ptv a] w fun e w' => ∃ z, e = .returned z ∧ Rt w' z 0 1 18 ∧ Below w.heap.size w w' := by
  have W0 := hid' (fun W => whole_rt 0 W (by omega) (by omega))
  obtain ⟨px, py⟩ := p
  obtain ⟨ax, ay⟩ := a
  have S := Fq.new w px py ax ay ax ay
  show Calls Try.prog 34 #[pt px py, pt ax ay, pt ax ay] w _
  go_enter Try.func34, Try.ntmps34
  go_wp2_with fail
  refine (W0.out _).mono ?_
  generalize ((((w.alloc (.cells #[.int .i32 px, .int .i32 py] 23)).alloc (.cells #[.int .i32 ax, .int .i32 ay] 23)).alloc (.cells #[.int .i32 ax, .int .i32 ay] 23)).alloc (.cells #[.bool false, .slice none 0 0, .bool false, .slice none 0 0] 53)) = W at *
  rintro e w2 ⟨z, rfl, hz, g2⟩
  obtain ⟨r5, o5, l5, c5, R5, O5, M5, C5, rfl, z5⟩ := hz.shape
  dsimp only
  replace S := S.mono g2
  have kR := S.r
  have hB := S.g
  clear g2 hz W0
  have d0 := kR.c0
  have d1 := kR.c1
  have d2 := kR.c2
  have d3 := kR.c3
  have df := kR.f
  go_wp2
  refine bodyPost_ret (v := .agg #[.bool r5, .slice o5 l5 c5, .bool R5, .slice O5 M5 C5]) (by simp [results, Try.results34, go_sem, d0, d1, d2, d3]) rfl ⟨_, rfl, ?_, ?_⟩
  · exact ((z5.out.le (by omega : 2 ≤ 18)).setQ kR _ _ _ _).to rfl rfl
  · exact (((hB.setCell (by simp only []; omega) _).setCell (by simp only []; omega) _).setCell (by simp only []; omega) _).setCell (by simp only []; omega) _
set_option maxRecDepth 20000 in
set_option maxHeartbeats 4000000 in
theorem foot_two_rt (p a b : P2) (w : World) (hp : ins p) (ha : ins a) (hb : ins b) (hab : a ≠ b) : Calls Try.prog 34 #[ptv p, ptv a, ptv b] w fun e w' => ∃ z, e = .returned z ∧ Rt w' z (rft p a b).1 (rft p a b).2 18 ∧ Below w.heap.size w w' := by
  have E1 : Hid (dtt a b p < 0 → (rft p a b).1 = 0 ∧ (rft p a b).2 = 1) := fun h => by unfold rft; rw [if_neg hab, if_pos h]; exact ⟨rfl, rfl⟩
  have E2 : Hid (0 ≤ dtt a b p → dd a b < dtt a b p → (rft p a b).1 = 1 ∧ (rft p a b).2 = 1) := fun h k => by unfold rft; rw [if_neg hab, if_neg (by omega), if_pos k]; exact ⟨rfl, rfl⟩
  have E3 : Hid (0 ≤ dtt a b p → dtt a b p ≤ dd a b → (rft p a b).1 = dtt a b p ∧ (rft p a b).2 = dd a b) := fun h k => by unfold rft; rw [if_neg hab, if_neg (by omega), if_neg (by omega)]; exact ⟨rfl, rfl⟩
  have hN := dd_pos hab
  have hT : Hid ((b.1 - a.1) * (p.1 - a.1) + (b.2 - a.2) * (p.2 - a.2) = dtt a b p) := rfl
  have hD : Hid ((b.1 - a.1) * (b.1 - a.1) + (b.2 - a.2) * (b.2 - a.2) = dd a b) := rfl
  have hne := ne_eqB hab
  generalize (rft p a b).1 = fn at *
  generalize (rft p a b).2 = fd at *
  generalize dtt a b p = T at *
  generalize dd a b = D at *
  clear hab
  obtain ⟨px, py⟩ := p
  obtain ⟨ax, ay⟩ := a
  obtain ⟨bx, by_⟩ := b
  obtain ⟨i1, j1⟩ := hp
  obtain ⟨i2, j2⟩ := ha
  obtain ⟨i3, j3⟩ := hb
  simp only at i1 j1 i2 j2 i3 j3 hT hD hne
  have U1 := hid' (fun W => whole_rt (bx - ax) W (dif64 i3 i2).1 (dif64 i3 i2).2)
  have U2 := hid' (fun W => whole_rt (by_ - ay) W (dif64 j3 j2).1 (dif64 j3 j2).2)
  have U3 := hid' (fun W => whole_rt (px - ax) W (dif64 i1 i2).1 (dif64 i1 i2).2)
  have U4 := hid' (fun W => whole_rt (py - ay) W (dif64 j1 j2).1 (dif64 j1 j2).2)
  have e1 := w64_in i1
  have e2 := w64_in i2
  have e3 := w64_in i3
  have e4 := w64_in j1
  have e5 := w64_in j2
  have e6 := w64_in j3
  have f1 := w64_dif i3 i2
  have f2 := w64_dif j3 j2
  have f3 := w64_dif i1 i2
  have f4 := w64_dif j1 j2
  clear i1 j1 i2 j2 i3 j3
  have S : Fq w ((((w.alloc (.cells #[.int .i32 px, .int .i32 py] 23)).alloc (.cells #[.int .i32 ax, .int .i32 ay] 23)).alloc (.cells #[.int .i32 bx, .int .i32 by_] 23)).alloc (.cells #[.bool false, .slice none 0 0, .bool false, .slice none 0 0] 53)) (px, py) (ax, ay) (bx, by_) := Fq.new w px py ax ay bx by_
  show Calls Try.prog 34 #[pt px py, pt ax ay, pt bx by_] w _
  rcases hne.out with k | ⟨k, k'⟩
  all_goals
    clear hne
    go_enter Try.func34, Try.ntmps34
    have p0 := S.p.c0
    have p1 := S.p.c1
    have a0 := S.a.c0
    have a1 := S.a.c1
    have b0 := S.b.c0
    have b1 := S.b.c1
    go_wp2_with fail
    generalize ((((w.alloc (.cells #[.int .i32 px, .int .i32 py] 23)).alloc (.cells #[.int .i32 ax, .int .i32 ay] 23)).alloc (.cells #[.int .i32 bx, .int .i32 by_] 23)).alloc (.cells #[.bool false, .slice none 0 0, .bool false, .slice none 0 0] 53)) = W at *
    refine (U1.out _).mono ?_
    rintro e w1 ⟨z, rfl, hz, g1⟩
    obtain ⟨r1, o1, l1, c1, R1, O1, M1, C1, rfl, z1⟩ := hz.shape
    have h1 : Below w1.heap.size w1 (w1.alloc (.cells #[.bool r1, .slice o1 l1 c1, .bool R1, .slice O1 M1 C1] 53)) := ((Gr.refl _).alloc _).below
    replace g1 := g1.trans (h1.mono g1.size)
    replace S := S.mono g1
    have V7 : Hid (VL (w1.alloc (.cells #[.bool r1, .slice o1 l1 c1, .bool R1, .slice O1 M1 C1] 53)) w1.heap.size (bx - ax) 1 2) := hid' (VL.new z1.out)
    clear hz h1 g1 z1 U1 p0 p1 a0 a1 b0 b1
    dsimp only
    have p0 := S.p.c0
    have p1 := S.p.c1
    have a0 := S.a.c0
    have a1 := S.a.c1
    have b0 := S.b.c0
    have b1 := S.b.c1
    go_wp2_with fail
    generalize w1.alloc (.cells #[.bool r1, .slice o1 l1 c1, .bool R1, .slice O1 M1 C1] 53) = Y1 at *
    generalize w1.heap.size = X7 at *
    refine (U2.out _).mono ?_
    rintro e w2 ⟨z, rfl, hz, g2⟩
    obtain ⟨r2, o2, l2, c2, R2, O2, M2, C2, rfl, z2⟩ := hz.shape
    have h2 : Below w2.heap.size w2 (w2.alloc (.cells #[.bool r2, .slice o2 l2 c2, .bool R2, .slice O2 M2 C2] 53)) := ((Gr.refl _).alloc _).below
    replace g2 := g2.trans (h2.mono g2.size)
    replace S := S.mono g2
    replace V7 := hid' (V7.out.mono g2)
    have V8 : Hid (VL (w2.alloc (.cells #[.bool r2, .slice o2 l2 c2, .bool R2, .slice O2 M2 C2] 53)) w2.heap.size (by_ - ay) 1 2) := hid' (VL.new z2.out)
    clear hz h2 g2 z2 U2 p0 p1 a0 a1 b0 b1
    dsimp only
    have p0 := S.p.c0
    have p1 := S.p.c1
    have a0 := S.a.c0
    have a1 := S.a.c1
    have b0 := S.b.c0
    have b1 := S.b.c1
    go_wp2_with fail
    generalize w2.alloc (.cells #[.bool r2, .slice o2 l2 c2, .bool R2, .slice O2 M2 C2] 53) = Y2 at *
    generalize w2.heap.size = X8 at *
    refine (U3.out _).mono ?_
    rintro e w3 ⟨z, rfl, hz, g3⟩
    obtain ⟨r3, o3, l3, c3, R3, O3, M3, C3, rfl, z3⟩ := hz.shape
    have h3 : Below w3.heap.size w3 (w3.alloc (.cells #[.bool r3, .slice o3 l3 c3, .bool R3, .slice O3 M3 C3] 53)) := ((Gr.refl _).alloc _).below
    replace g3 := g3.trans (h3.mono g3.size)
    replace S := S.mono g3
    replace V7 := hid' (V7.out.mono g3)
    replace V8 := hid' (V8.out.mono g3)
    have V9 : Hid (VL (w3.alloc (.cells #[.bool r3, .slice o3 l3 c3, .bool R3, .slice O3 M3 C3] 53)) w3.heap.size (px - ax) 1 2) := hid' (VL.new z3.out)
    clear hz h3 g3 z3 U3 p0 p1 a0 a1 b0 b1
    dsimp only
    have p0 := S.p.c0
    have p1 := S.p.c1
    have a0 := S.a.c0
    have a1 := S.a.c1
    have b0 := S.b.c0
    have b1 := S.b.c1
    go_wp2_with fail
    generalize w3.alloc (.cells #[.bool r3, .slice o3 l3 c3, .bool R3, .slice O3 M3 C3] 53) = Y3 at *
    generalize w3.heap.size = X9 at *
    refine (U4.out _).mono ?_
    rintro e w4 ⟨z, rfl, hz, g4⟩
    obtain ⟨r4, o4, l4, c4, R4, O4, M4, C4, rfl, z4⟩ := hz.shape
    have h4 : Below w4.heap.size w4 (w4.alloc (.cells #[.bool r4, .slice o4 l4 c4, .bool R4, .slice O4 M4 C4] 53)) := ((Gr.refl _).alloc _).below
    replace g4 := g4.trans (h4.mono g4.size)
    replace S := S.mono g4
    replace V7 := hid' (V7.out.mono g4)
    replace V8 := hid' (V8.out.mono g4)
    replace V9 := hid' (V9.out.mono g4)
    have V10 : Hid (VL (w4.alloc (.cells #[.bool r4, .slice o4 l4 c4, .bool R4, .slice O4 M4 C4] 53)) w4.heap.size (py - ay) 1 2) := hid' (VL.new z4.out)
    clear hz h4 g4 z4 U4 p0 p1 a0 a1 b0 b1
    dsimp only
    have p0 := S.p.c0
    have p1 := S.p.c1
    have a0 := S.a.c0
    have a1 := S.a.c1
    have b0 := S.b.c0
    have b1 := S.b.c1
    go_upto_region 7 with fail
    generalize w4.alloc (.cells #[.bool r4, .slice o4 l4 c4, .bool R4, .slice O4 M4 C4] 53) = Y4 at *
    generalize w4.heap.size = X10 at *
    exact foot_b w _ (w.heap.size + 1 + 1 + 1) fn fd X7 X8 X9 X10 (bx - ax) (by_ - ay) (px - ax) (py - ay) T D (by omega) S.r S.g V7.out V8.out V9.out V10.out hT hD hN E1 E2 E3 _ rfl _ (by assumption)
/-- The reference's foot, of any points of 32 bits. -/
theorem foot_rt (p a b : P2) (w : World) (hp : ins p) (ha : ins a) (hb : ins b) : Calls Try.prog 34 #[ptv p, ptv a, ptv b] w fun e w' => ∃ z, e = .returned z ∧ Rt w' z (rft p a b).1 (rft p a b).2 18 ∧ Below w.heap.size w w' := by
  by_cases h : a = b
  · subst h
    have e : rft p a a = (0, 1) := by unfold rft; rw [if_pos rfl]
    rw [e]
    exact foot_same_rt p a w
  · exact foot_two_rt p a b w hp ha hb h
end
section
open Go.RowKit Go.Sort

theorem rft_bd {p a b : P2} (la : lat a) (lb : lat b) : (rft p a b).2 ≤ 9223372036854775807 ∧ (rft p a b).1.natAbs ≤ 9223372036854775807 := by
  have := dd_bd la lb
  unfold rft
  split
  · exact ⟨by decide, by decide⟩
  · split
    · exact ⟨by decide, by decide⟩
    · split
      · exact ⟨by decide, by decide⟩
      · exact ⟨by show dd a b ≤ _; omega, by show (dtt a b p).natAbs ≤ _; omega⟩
structure Gq (w w' : World) (p a b : P2) : Prop where
  p : TwoIs w' w.heap.size p.1 p.2
  a : TwoIs w' (w.heap.size + 1) a.1 a.2
  b : TwoIs w' (w.heap.size + 1 + 1) b.1 b.2
  r : TwoF w' (w.heap.size + 1 + 1 + 1) (.int .i64 0) (.int .i64 0)
  g : Below w.heap.size w w'
theorem Gq.mono {w w1 w2 : World} {p a b : P2} (h : Gq w w1 p a b) (g : Below w1.heap.size w1 w2) : Gq w w2 p a b :=
  ⟨⟨below_cell h.p.c0 g, below_cell h.p.c1 g⟩, ⟨below_cell h.a.c0 g, below_cell h.a.c1 g⟩, ⟨below_cell h.b.c0 g, below_cell h.b.c1 g⟩, h.r.mono g h.r.lt, h.g.trans (g.mono h.g.size)⟩
theorem Gq.new (w : World) (px py ax ay bx by_ : Int) : Gq w ((((w.alloc (.cells #[.int .i32 px, .int .i32 py] 23)).alloc (.cells #[.int .i32 ax, .int .i32 ay] 23)).alloc (.cells #[.int .i32 bx, .int .i32 by_] 23)).alloc (.cells #[.int .i64 0, .int .i64 0] 28)) (px, py) (ax, ay) (bx, by_) := by
  refine ⟨⟨by go_simp, by go_simp⟩, ⟨by go_simp, by go_simp⟩, ⟨by go_simp, by go_simp⟩, ?_, (((((Gr.refl _).alloc _).alloc _).alloc _).alloc _).below⟩
  have := TwoF.new (((w.alloc (.cells #[.int .i32 px, .int .i32 py] 23)).alloc (.cells #[.int .i32 ax, .int .i32 ay] 23)).alloc (.cells #[.int .i32 bx, .int .i32 by_] 23)) (.int .i64 0) (.int .i64 0)
  simpa using this
set_option maxRecDepth 20000 in
set_option maxHeartbeats 4000000 in
theorem rfoot_offP (p a b : P2) (w : World) (lp : latP p = false) : Calls Try.prog 12 #[ptv p, ptv a, ptv b] w fun e w' => e = .returned (frv (0, 1)) ∧ Below w.heap.size w w' := by
  have IP : Hid (∀ W, Calls Try.prog 18 #[ptv p] W fun e w' => e = .returned (.bool false) ∧ Gr W w') := fun W => by have := rin_any p W; rw [lp] at this; exact this
  obtain ⟨px, py⟩ := p
  obtain ⟨ax, ay⟩ := a
  obtain ⟨bx, by_⟩ := b
  have S : Gq w ((((w.alloc (.cells #[.int .i32 px, .int .i32 py] 23)).alloc (.cells #[.int .i32 ax, .int .i32 ay] 23)).alloc (.cells #[.int .i32 bx, .int .i32 by_] 23)).alloc (.cells #[.int .i64 0, .int .i64 0] 28)) (px, py) (ax, ay) (bx, by_) := Gq.new w px py ax ay bx by_
  show Calls Try.prog 12 #[pt px py, pt ax ay, pt bx by_] w _
  go_enter Try.func12, Try.ntmps12
  go_wp2_with fail
  refine (IP.out _).mono ?_
  generalize ((((w.alloc (.cells #[.int .i32 px, .int .i32 py] 23)).alloc (.cells #[.int .i32 ax, .int .i32 ay] 23)).alloc (.cells #[.int .i32 bx, .int .i32 by_] 23)).alloc (.cells #[.int .i64 0, .int .i64 0] 28)) = W at *
  rintro e w1 ⟨rfl, g1⟩
  replace S := S.mono g1.below
  clear g1
  dsimp only
  have n0 := S.r.c0
  have n1 := S.r.c1
  have nf := S.r.f
  have hb := S.g
  go_wp2
  refine bodyPost_ret (v := frv (0, 1)) (by simp [results, Try.results12, go_sem, n0, n1]) rfl ⟨rfl, ?_⟩
  exact (hb.setCell (by simp only []; omega) _).setCell (by simp only []; omega) _
set_option maxRecDepth 20000 in
set_option maxHeartbeats 4000000 in
theorem rfoot_offA (p a b : P2) (w : World) (lp : lat p) (la : latP a = false) : Calls Try.prog 12 #[ptv p, ptv a, ptv b] w fun e w' => e = .returned (frv (0, 1)) ∧ Below w.heap.size w w' := by
  have IP : Hid (∀ W, Calls Try.prog 18 #[ptv p] W fun e w' => e = .returned (.bool true) ∧ Gr W w') := fun W => by have := rin_any p W; rw [(latP_iff p).mpr lp] at this; exact this
  have IA : Hid (∀ W, Calls Try.prog 18 #[ptv a] W fun e w' => e = .returned (.bool false) ∧ Gr W w') := fun W => by have := rin_any a W; rw [la] at this; exact this
  obtain ⟨px, py⟩ := p
  obtain ⟨ax, ay⟩ := a
  obtain ⟨bx, by_⟩ := b
  have S : Gq w ((((w.alloc (.cells #[.int .i32 px, .int .i32 py] 23)).alloc (.cells #[.int .i32 ax, .int .i32 ay] 23)).alloc (.cells #[.int .i32 bx, .int .i32 by_] 23)).alloc (.cells #[.int .i64 0, .int .i64 0] 28)) (px, py) (ax, ay) (bx, by_) := Gq.new w px py ax ay bx by_
  show Calls Try.prog 12 #[pt px py, pt ax ay, pt bx by_] w _
  go_enter Try.func12, Try.ntmps12
  go_wp2_with fail
  refine (IP.out _).mono ?_
  generalize ((((w.alloc (.cells #[.int .i32 px, .int .i32 py] 23)).alloc (.cells #[.int .i32 ax, .int .i32 ay] 23)).alloc (.cells #[.int .i32 bx, .int .i32 by_] 23)).alloc (.cells #[.int .i64 0, .int .i64 0] 28)) = W at *
  rintro e w1 ⟨rfl, g1⟩
  replace S := S.mono g1.below
  clear g1
  dsimp only
  have a0 := S.a.c0
  have a1 := S.a.c1
  go_wp2_with fail
  refine (IA.out _).mono ?_
  rintro e w2 ⟨rfl, g2⟩
  replace S := S.mono g2.below
  clear g2
  dsimp only
  clear a0 a1
  have n0 := S.r.c0
  have n1 := S.r.c1
  have nf := S.r.f
  have hb := S.g
  go_wp2
  refine bodyPost_ret (v := frv (0, 1)) (by simp [results, Try.results12, go_sem, n0, n1]) rfl ⟨rfl, ?_⟩
  exact (hb.setCell (by simp only []; omega) _).setCell (by simp only []; omega) _
set_option maxRecDepth 20000 in
set_option maxHeartbeats 4000000 in
theorem rfoot_offB (p a b : P2) (w : World) (lp : lat p) (la : lat a) (lb : latP b = false) : Calls Try.prog 12 #[ptv p, ptv a, ptv b] w fun e w' => e = .returned (frv (0, 1)) ∧ Below w.heap.size w w' := by
  have IP : Hid (∀ W, Calls Try.prog 18 #[ptv p] W fun e w' => e = .returned (.bool true) ∧ Gr W w') := fun W => by have := rin_any p W; rw [(latP_iff p).mpr lp] at this; exact this
  have IA : Hid (∀ W, Calls Try.prog 18 #[ptv a] W fun e w' => e = .returned (.bool true) ∧ Gr W w') := fun W => by have := rin_any a W; rw [(latP_iff a).mpr la] at this; exact this
  have IB : Hid (∀ W, Calls Try.prog 18 #[ptv b] W fun e w' => e = .returned (.bool false) ∧ Gr W w') := fun W => by have := rin_any b W; rw [lb] at this; exact this
  obtain ⟨px, py⟩ := p
  obtain ⟨ax, ay⟩ := a
  obtain ⟨bx, by_⟩ := b
  have S : Gq w ((((w.alloc (.cells #[.int .i32 px, .int .i32 py] 23)).alloc (.cells #[.int .i32 ax, .int .i32 ay] 23)).alloc (.cells #[.int .i32 bx, .int .i32 by_] 23)).alloc (.cells #[.int .i64 0, .int .i64 0] 28)) (px, py) (ax, ay) (bx, by_) := Gq.new w px py ax ay bx by_
  show Calls Try.prog 12 #[pt px py, pt ax ay, pt bx by_] w _
  go_enter Try.func12, Try.ntmps12
  go_wp2_with fail
  refine (IP.out _).mono ?_
  generalize ((((w.alloc (.cells #[.int .i32 px, .int .i32 py] 23)).alloc (.cells #[.int .i32 ax, .int .i32 ay] 23)).alloc (.cells #[.int .i32 bx, .int .i32 by_] 23)).alloc (.cells #[.int .i64 0, .int .i64 0] 28)) = W at *
  rintro e w1 ⟨rfl, g1⟩
  replace S := S.mono g1.below
  clear g1
  dsimp only
  have a0 := S.a.c0
  have a1 := S.a.c1
  go_wp2_with fail
  refine (IA.out _).mono ?_
  rintro e w2 ⟨rfl, g2⟩
  replace S := S.mono g2.below
  clear g2
  dsimp only
  clear a0 a1
  have b0 := S.b.c0
  have b1 := S.b.c1
  go_wp2_with fail
  refine (IB.out _).mono ?_
  rintro e w3 ⟨rfl, g3⟩
  replace S := S.mono g3.below
  clear g3
  dsimp only
  clear b0 b1
  have n0 := S.r.c0
  have n1 := S.r.c1
  have nf := S.r.f
  have hb := S.g
  go_wp2
  refine bodyPost_ret (v := frv (0, 1)) (by simp [results, Try.results12, go_sem, n0, n1]) rfl ⟨rfl, ?_⟩
  exact (hb.setCell (by simp only []; omega) _).setCell (by simp only []; omega) _
set_option maxRecDepth 20000 in
set_option maxHeartbeats 4000000 in
theorem rfoot_on (p a b : P2) (w : World) (lp : lat p) (la : lat a) (lb : lat b) : Calls Try.prog 12 #[ptv p, ptv a, ptv b] w fun e w' => e = .returned (frv (footF p a b)) ∧ Below w.heap.size w w' := by
  have IP : Hid (∀ W, Calls Try.prog 18 #[ptv p] W fun e w' => e = .returned (.bool true) ∧ Gr W w') := fun W => by have := rin_any p W; rw [(latP_iff p).mpr lp] at this; exact this
  have IA : Hid (∀ W, Calls Try.prog 18 #[ptv a] W fun e w' => e = .returned (.bool true) ∧ Gr W w') := fun W => by have := rin_any a W; rw [(latP_iff a).mpr la] at this; exact this
  have IB : Hid (∀ W, Calls Try.prog 18 #[ptv b] W fun e w' => e = .returned (.bool true) ∧ Gr W w') := fun W => by have := rin_any b W; rw [(latP_iff b).mpr lb] at this; exact this
  have F := hid' (fun W => foot_rt p a b W lp.ins la.ins lb.ins)
  have G : Hid (∀ v W, Rt W v (rft p a b).1 (rft p a b).2 18 → Calls Try.prog 28 #[v] W fun e w' => e = .returned (frv (footF p a b)) ∧ Gr W w') := fun v W h => by
    rw [← rft_low]
    exact frac_any v _ _ 18 W h (rft_pos p a b) (rft_bd la lb).1 (rft_bd la lb).2
  generalize footF p a b = f at *
  generalize (rft p a b).1 = fn at *
  generalize (rft p a b).2 = fd at *
  obtain ⟨f1, f2⟩ := f
  obtain ⟨px, py⟩ := p
  obtain ⟨ax, ay⟩ := a
  obtain ⟨bx, by_⟩ := b
  have S : Gq w ((((w.alloc (.cells #[.int .i32 px, .int .i32 py] 23)).alloc (.cells #[.int .i32 ax, .int .i32 ay] 23)).alloc (.cells #[.int .i32 bx, .int .i32 by_] 23)).alloc (.cells #[.int .i64 0, .int .i64 0] 28)) (px, py) (ax, ay) (bx, by_) := Gq.new w px py ax ay bx by_
  show Calls Try.prog 12 #[pt px py, pt ax ay, pt bx by_] w _
  go_enter Try.func12, Try.ntmps12
  go_wp2_with fail
  refine (IP.out _).mono ?_
  generalize ((((w.alloc (.cells #[.int .i32 px, .int .i32 py] 23)).alloc (.cells #[.int .i32 ax, .int .i32 ay] 23)).alloc (.cells #[.int .i32 bx, .int .i32 by_] 23)).alloc (.cells #[.int .i64 0, .int .i64 0] 28)) = W at *
  rintro e w1 ⟨rfl, g1⟩
  replace S := S.mono g1.below
  clear g1
  dsimp only
  have a0 := S.a.c0
  have a1 := S.a.c1
  go_wp2_with fail
  refine (IA.out _).mono ?_
  rintro e w2 ⟨rfl, g2⟩
  replace S := S.mono g2.below
  clear g2
  dsimp only
  clear a0 a1
  have b0 := S.b.c0
  have b1 := S.b.c1
  go_wp2_with fail
  refine (IB.out _).mono ?_
  rintro e w3 ⟨rfl, g3⟩
  replace S := S.mono g3.below
  clear g3
  dsimp only
  clear b0 b1
  have p0 := S.p.c0
  have p1 := S.p.c1
  have a0 := S.a.c0
  have a1 := S.a.c1
  have b0 := S.b.c0
  have b1 := S.b.c1
  go_wp2_with fail
  refine (F.out _).mono ?_
  rintro e w4 ⟨z, rfl, hz, g4⟩
  obtain ⟨r1, o1, l1, c1, R1, O1, M1, C1, rfl, z1⟩ := hz.shape
  replace S := S.mono g4
  clear g4 hz p0 p1 a0 a1 b0 b1 F
  dsimp only
  go_wp2_with fail
  refine (G.out _ _ z1.out).mono ?_
  rintro e w5 ⟨rfl, g5⟩
  replace S := S.mono g5.below
  clear g5 z1 G
  dsimp only
  have n0 := S.r.c0
  have n1 := S.r.c1
  have nf := S.r.f
  have hb := S.g
  go_wp2
  refine bodyPost_ret (v := frv (f1, f2)) (by simp [results, Try.results12, go_sem, n0, n1]) rfl ⟨rfl, ?_⟩
  exact (hb.setCell (by simp only []; omega) _).setCell (by simp only []; omega) _
theorem rfoot_any (p a b : P2) (w : World) : Calls Try.prog 12 #[ptv p, ptv a, ptv b] w fun e w' => e = .returned (frv (footA p a b)) ∧ Below w.heap.size w w' := by
  unfold footA
  cases hP : latP p with
  | false => simpa using rfoot_offP p a b w hP
  | true =>
  have lp := (latP_iff p).mp hP
  cases hA : latP a with
  | false => simpa using rfoot_offA p a b w lp hA
  | true =>
  have la := (latP_iff a).mp hA
  cases hB : latP b with
  | false => simpa using rfoot_offB p a b w lp la hB
  | true =>
  have lb := (latP_iff b).mp hB
  exact rfoot_on p a b w lp la lb
end
section
open Go.RowKit Go.Sort

abbrev T6 (a0 a1 a2 a3 a4 a5 : Addr) (v0 v1 v2 v3 v4 v5 : Value) (K : Nat) (W w : World) : Prop := w.cell? a0 = some v0 ∧ w.cell? a1 = some v1 ∧ w.cell? a2 = some v2 ∧ w.cell? a3 = some v3 ∧ w.cell? a4 = some v4 ∧ w.cell? a5 = some v5 ∧ Below K W w
theorem T6.call {a0 a1 a2 a3 a4 a5 : Addr} {v0 v1 v2 v3 v4 v5 : Value} {K : Nat} {W w : World} {w' : World} (h : T6 a0 a1 a2 a3 a4 a5 v0 v1 v2 v3 v4 v5 K W w) (hK : K ≤ W.heap.size) (g : Below w.heap.size w w') : T6 a0 a1 a2 a3 a4 a5 v0 v1 v2 v3 v4 v5 K W w' :=
  ⟨below_cell h.1 g, below_cell h.2.1 g, below_cell h.2.2.1 g, below_cell h.2.2.2.1 g, below_cell h.2.2.2.2.1 g, below_cell h.2.2.2.2.2.1 g, h.2.2.2.2.2.2.trans (g.mono (Nat.le_trans hK h.2.2.2.2.2.2.size))⟩
theorem T6.al {a0 a1 a2 a3 a4 a5 : Addr} {v0 v1 v2 v3 v4 v5 : Value} {K : Nat} {W w : World} (h : T6 a0 a1 a2 a3 a4 a5 v0 v1 v2 v3 v4 v5 K W w) (hK : K ≤ W.heap.size) (o : Obj) : T6 a0 a1 a2 a3 a4 a5 v0 v1 v2 v3 v4 v5 K W (w.alloc o) := T6.call h hK ((Gr.refl _).alloc _).below
theorem T6.dr {a0 a1 a2 a3 a4 a5 : Addr} {v0 v1 v2 v3 v4 v5 : Value} {K : Nat} {W w : World} (h : T6 a0 a1 a2 a3 a4 a5 v0 v1 v2 v3 v4 v5 K W w) : T6 a0 a1 a2 a3 a4 a5 v0 v1 v2 v3 v4 v5 K W w.drew := ⟨h.1, h.2.1, h.2.2.1, h.2.2.2.1, h.2.2.2.2.1, h.2.2.2.2.2.1, h.2.2.2.2.2.2.drew⟩
theorem T6.set {a0 a1 a2 a3 a4 a5 : Addr} {v0 v1 v2 v3 v4 v5 : Value} {K : Nat} {W w : World} (h : T6 a0 a1 a2 a3 a4 a5 v0 v1 v2 v3 v4 v5 K W w) {p : Addr} (hp : K ≤ p.block) (q : a0.block < K ∧ a1.block < K ∧ a2.block < K ∧ a3.block < K ∧ a4.block < K ∧ a5.block < K) (z : Value) : T6 a0 a1 a2 a3 a4 a5 v0 v1 v2 v3 v4 v5 K W (w.setCell p z) :=
  have f : ∀ a : Addr, a.block < K → (w.setCell p z).cell? a = w.cell? a := fun a ha => World.cell?_setCell_far w p a z (by omega)
  ⟨(f _ q.1).trans h.1, (f _ q.2.1).trans h.2.1, (f _ q.2.2.1).trans h.2.2.1, (f _ q.2.2.2.1).trans h.2.2.2.1, (f _ q.2.2.2.2.1).trans h.2.2.2.2.1, (f _ q.2.2.2.2.2).trans h.2.2.2.2.2.1, h.2.2.2.2.2.2.setCell hp z⟩
set_option maxRecDepth 20000 in
set_option maxHeartbeats 4000000 in
theorem at_t3 {u0 u1 u2 u3 u4 u5 u10 u11 u12 u13 u14 u15 u16 u17 u18 u19 u20 u21 u22 u23 u24 u25 u26 u27 u28 u29 u30 u31 u32 u33 u34 u35 u36 u37 u38 u39 u40 u41 : Value} (w wq : World) (R S6 : Nat) (xn yn td : Int) (X8 X9 : Nat) (hR : w.heap.size ≤ R) (hS : w.heap.size ≤ S6) (hRS : R ≠ S6) (kR : Q4 wq R (.bool false) (.slice none 0 0) (.bool false) (.slice none 0 0)) (kS : Q4 wq S6 (.bool false) (.slice none 0 0) (.bool false) (.slice none 0 0)) (hB : Below w.heap.size w wq) (V8 : VL wq X8 xn td 23) (V9 : VL wq X9 yn td 23) (h8S : X8 ≠ S6) (h9R : X9 ≠ R) (Q : Exit → Act → World → Prop) (hQ : Q = bodyPost Try.prog Try.f36 (fun e w' => ∃ x y, e = .returned (.tuple #[x, y]) ∧ Rt w' x xn td 23 ∧ Rt w' y yn td 23 ∧ Below w.heap.size w w')) (K : Act → World → Prop) (hK : ∀ a w, Code.wp Try.prog (codeTail 4 (codeOf Try.f36)) Q a w → K a w) :
    Code.wp Try.prog (codeHead 3 (codeOf Try.f36)) (Exit.then K Q) { tmps := #[u0, u1, u2, u3, u4, u5, .pointer (some ⟨R, 0, none⟩), .pointer (some ⟨S6, 0, none⟩), .pointer (some ⟨X8, 0, none⟩), .pointer (some ⟨X9, 0, none⟩), u10, u11, u12, u13, u14, u15, u16, u17, u18, u19, u20, u21, u22, u23, u24, u25, u26, u27, u28, u29, u30, u31, u32, u33, u34, u35, u36, u37, u38, u39, u40, u41], defers := [] } wq := by
  dsimp only [codeHead, codeTail, codeOf, Try.f36, Option.getD] at hK ⊢
  subst hQ
  obtain ⟨r8, o8, l8, c8, R8, O8, M8, C8, k8, z8⟩ := V8
  obtain ⟨r9, o9, l9, c9, R9, O9, M9, C9, k9, z9⟩ := V9
  have hSR := Ne.symm hRS
  have qS := ((((kS.other (p := ⟨R, 0, none⟩) hSR (.bool r8)).other (p := ⟨R, 1, none⟩) hSR (.slice o8 l8 c8)).other (p := ⟨R, 2, none⟩) hSR (.bool R8)).other (p := ⟨R, 3, none⟩) hSR (.slice O8 M8 C8))
  have qR := ((((kR.other (p := ⟨S6, 0, none⟩) hRS (.bool r9)).other (p := ⟨S6, 1, none⟩) hRS (.slice o9 l9 c9)).other (p := ⟨S6, 2, none⟩) hRS (.bool R9)).other (p := ⟨S6, 3, none⟩) hRS (.slice O9 M9 C9))
  have q9 := ((((k9.other (p := ⟨R, 0, none⟩) h9R (.bool r8)).other (p := ⟨R, 1, none⟩) h9R (.slice o8 l8 c8)).other (p := ⟨R, 2, none⟩) h9R (.bool R8)).other (p := ⟨R, 3, none⟩) h9R (.slice O8 M8 C8))
  have q8 := ((((k8.other (p := ⟨S6, 0, none⟩) h8S (.bool r9)).other (p := ⟨S6, 1, none⟩) h8S (.slice o9 l9 c9)).other (p := ⟨S6, 2, none⟩) h8S (.bool R9)).other (p := ⟨S6, 3, none⟩) h8S (.slice O9 M9 C9))
  have aR := ((((kR.s0 (.bool r8)).s1 (.slice o8 l8 c8)).s2 (.bool R8)).s3 (.slice O8 M8 C8))
  have aS := ((((kS.s0 (.bool r9)).s1 (.slice o9 l9 c9)).s2 (.bool R9)).s3 (.slice O9 M9 C9))
  have fR1 := ((((aR.other (p := ⟨S6, 0, none⟩) hRS (.bool r9)).other (p := ⟨S6, 1, none⟩) hRS (.slice o9 l9 c9)).other (p := ⟨S6, 2, none⟩) hRS (.bool R9)).other (p := ⟨S6, 3, none⟩) hRS (.slice O9 M9 C9))
  have fS1 := ((((qS.s0 (.bool r9)).s1 (.slice o9 l9 c9)).s2 (.bool R9)).s3 (.slice O9 M9 C9))
  have fR2 := ((((qR.s0 (.bool r8)).s1 (.slice o8 l8 c8)).s2 (.bool R8)).s3 (.slice O8 M8 C8))
  have fS2 := ((((aS.other (p := ⟨R, 0, none⟩) hSR (.bool r8)).other (p := ⟨R, 1, none⟩) hSR (.slice o8 l8 c8)).other (p := ⟨R, 2, none⟩) hSR (.bool R8)).other (p := ⟨R, 3, none⟩) hSR (.slice O8 M8 C8))
  have zx1 := hid' ((z8.setQ kR (.bool r8) (.slice o8 l8 c8) (.bool R8) (.slice O8 M8 C8)).setQ qS (.bool r9) (.slice o9 l9 c9) (.bool R9) (.slice O9 M9 C9))
  have zy1 := hid' ((z9.setQ kR (.bool r8) (.slice o8 l8 c8) (.bool R8) (.slice O8 M8 C8)).setQ qS (.bool r9) (.slice o9 l9 c9) (.bool R9) (.slice O9 M9 C9))
  have zx2 := hid' ((z8.setQ kS (.bool r9) (.slice o9 l9 c9) (.bool R9) (.slice O9 M9 C9)).setQ qR (.bool r8) (.slice o8 l8 c8) (.bool R8) (.slice O8 M8 C8))
  have zy2 := hid' ((z9.setQ kS (.bool r9) (.slice o9 l9 c9) (.bool R9) (.slice O9 M9 C9)).setQ qR (.bool r8) (.slice o8 l8 c8) (.bool R8) (.slice O8 M8 C8))
  have hW1 := hid' (((((((((hB.setCell (p := ⟨R, 0, none⟩) hR (.bool r8)).setCell (p := ⟨R, 1, none⟩) hR (.slice o8 l8 c8)).setCell (p := ⟨R, 2, none⟩) hR (.bool R8)).setCell (p := ⟨R, 3, none⟩) hR (.slice O8 M8 C8)).setCell (p := ⟨S6, 0, none⟩) hS (.bool r9)).setCell (p := ⟨S6, 1, none⟩) hS (.slice o9 l9 c9)).setCell (p := ⟨S6, 2, none⟩) hS (.bool R9)).setCell (p := ⟨S6, 3, none⟩) hS (.slice O9 M9 C9)))
  have hW2 := hid' (((((((((hB.setCell (p := ⟨S6, 0, none⟩) hS (.bool r9)).setCell (p := ⟨S6, 1, none⟩) hS (.slice o9 l9 c9)).setCell (p := ⟨S6, 2, none⟩) hS (.bool R9)).setCell (p := ⟨S6, 3, none⟩) hS (.slice O9 M9 C9)).setCell (p := ⟨R, 0, none⟩) hR (.bool r8)).setCell (p := ⟨R, 1, none⟩) hR (.slice o8 l8 c8)).setCell (p := ⟨R, 2, none⟩) hR (.bool R8)).setCell (p := ⟨R, 3, none⟩) hR (.slice O8 M8 C8)))
  have xa0 := k8.c0
  have xa1 := k8.c1
  have xa2 := k8.c2
  have xa3 := k8.c3
  have ya0 := k9.c0
  have ya1 := k9.c1
  have ya2 := k9.c2
  have ya3 := k9.c3
  have da0 := kR.c0
  have da1 := kR.c1
  have da2 := kR.c2
  have da3 := kR.c3
  have ea0 := kS.c0
  have ea1 := kS.c1
  have ea2 := kS.c2
  have ea3 := kS.c3
  have yb0 := q9.c0
  have yb1 := q9.c1
  have yb2 := q9.c2
  have yb3 := q9.c3
  have xb0 := q8.c0
  have xb1 := q8.c1
  have xb2 := q8.c2
  have xb3 := q8.c3
  have eb0 := qS.c0
  have eb1 := qS.c1
  have eb2 := qS.c2
  have eb3 := qS.c3
  have db0 := qR.c0
  have db1 := qR.c1
  have db2 := qR.c2
  have db3 := qR.c3
  have ra0 := fR1.c0
  have ra1 := fR1.c1
  have ra2 := fR1.c2
  have ra3 := fR1.c3
  have sa0 := fS1.c0
  have sa1 := fS1.c1
  have sa2 := fS1.c2
  have sa3 := fS1.c3
  have rb0 := fR2.c0
  have rb1 := fR2.c1
  have rb2 := fR2.c2
  have rb3 := fR2.c3
  have sb0 := fS2.c0
  have sb1 := fS2.c1
  have sb2 := fS2.c2
  have sb3 := fS2.c3
  have f1 := kR.f
  have f2 := kS.f
  have f3 := qS.f
  have f4 := qR.f
  replace z8 := hid' z8
  replace z9 := hid' z9
  clear qS qR q9 q8 aR aS fR1 fS1 fR2 fS2 k8 k9 kR kS hB z8 z9
  go_region
  all_goals
    go_wp2
    refine bodyPost_ret (v := .tuple #[.agg #[.bool r8, .slice o8 l8 c8, .bool R8, .slice O8 M8 C8], .agg #[.bool r9, .slice o9 l9 c9, .bool R9, .slice O9 M9 C9]]) (by simp [results, Try.results36, go_sem, ra0, ra1, ra2, ra3, sa0, sa1, sa2, sa3]) rfl ⟨_, _, rfl, ?_, ?_, ?_⟩
    · exact zx1.out.mono (Below.refl _ _).drew
    · exact zy1.out.mono (Below.refl _ _).drew
    · exact hW1.out.drew
set_option maxRecDepth 20000 in
set_option maxHeartbeats 4000000 in
theorem at_t2 {u0 u1 u2 u9 u10 u11 u12 u13 u14 u15 u16 u17 u18 u19 u20 u21 u22 u23 u24 u25 u26 u27 u28 u29 u30 u31 u32 u33 u34 u35 u36 u37 u38 u39 u40 u41 : Value} (w wq : World) (R S6 : Nat) (xn yn td : Int) (A B T5 : Nat) (ax ay bx by_ tn : Int) (X8 : Nat) (hR : w.heap.size ≤ R) (hS : w.heap.size ≤ S6) (hRS : R ≠ S6) (kR : Q4 wq R (.bool false) (.slice none 0 0) (.bool false) (.slice none 0 0)) (kS : Q4 wq S6 (.bool false) (.slice none 0 0) (.bool false) (.slice none 0 0)) (hB : Below w.heap.size w wq) (ta : TwoIs wq A ax ay) (tb : TwoIs wq B bx by_) (VT : VL wq T5 tn td 18) (V8 : VL wq X8 xn td 23) (h8S : X8 ≠ S6) (K1a : Hid (∀ W, Calls Try.prog 26 #[.int .i64 (IntKind.i64.wrap ay)] W fun e w' => ∃ z, e = .returned z ∧ Rt w' z ay 1 2 ∧ Below W.heap.size W w')) (K1b : Hid (∀ W, Calls Try.prog 26 #[.int .i64 (IntKind.i64.wrap (IntKind.i64.wrap by_ - IntKind.i64.wrap ay))] W fun e w' => ∃ z, e = .returned z ∧ Rt w' z (by_ - ay) 1 2 ∧ Below W.heap.size W w')) (hyn : Hid (ay * td + tn * (by_ - ay) = yn)) (Q : Exit → Act → World → Prop) (hQ : Q = bodyPost Try.prog Try.f36 (fun e w' => ∃ x y, e = .returned (.tuple #[x, y]) ∧ Rt w' x xn td 23 ∧ Rt w' y yn td 23 ∧ Below w.heap.size w w')) (K : Act → World → Prop) (hK : ∀ a w, Code.wp Try.prog (codeTail 3 (codeOf Try.f36)) Q a w → K a w) :
    Code.wp Try.prog (codeHead 2 (codeOf Try.f36)) (Exit.then K Q) { tmps := #[u0, u1, u2, .pointer (some ⟨A, 0, none⟩), .pointer (some ⟨B, 0, none⟩), .pointer (some ⟨T5, 0, none⟩), .pointer (some ⟨R, 0, none⟩), .pointer (some ⟨S6, 0, none⟩), .pointer (some ⟨X8, 0, none⟩), u9, u10, u11, u12, u13, u14, u15, u16, u17, u18, u19, u20, u21, u22, u23, u24, u25, u26, u27, u28, u29, u30, u31, u32, u33, u34, u35, u36, u37, u38, u39, u40, u41], defers := [] } wq := by
  dsimp only [codeHead, codeTail, codeOf, Try.f36, Option.getD] at hK ⊢
  subst hQ
  obtain ⟨r5, o5, l5, c5, R5, O5, M5, C5, k5, z5⟩ := VT
  replace z5 := hid' z5
  have hL : wq.heap.size ≤ wq.heap.size := Nat.le_refl _
  have hlt : Hid (Addr.block ⟨A, 1, none⟩ < wq.heap.size ∧ Addr.block ⟨B, 1, none⟩ < wq.heap.size ∧ Addr.block ⟨T5, 0, none⟩ < wq.heap.size ∧ Addr.block ⟨T5, 1, none⟩ < wq.heap.size ∧ Addr.block ⟨T5, 2, none⟩ < wq.heap.size ∧ Addr.block ⟨T5, 3, none⟩ < wq.heap.size) := ⟨ta.lt, tb.lt, k5.lt, k5.lt, k5.lt, k5.lt⟩
  have BW : Hid (Below wq.heap.size wq wq) := Below.refl _ _
  have B0 : Hid (Below wq.heap.size wq wq.drew) := (Below.refl _ _).drew
  have hSW : Hid (T6 ⟨A, 1, none⟩ ⟨B, 1, none⟩ ⟨T5, 0, none⟩ ⟨T5, 1, none⟩ ⟨T5, 2, none⟩ ⟨T5, 3, none⟩ (.int .i32 ay) (.int .i32 by_) (.bool r5) (.slice o5 l5 c5) (.bool R5) (.slice O5 M5 C5) wq.heap.size wq wq) := ⟨ta.c1, tb.c1, k5.c0, k5.c1, k5.c2, k5.c3, Below.refl _ _⟩
  have hS0 : Hid (T6 ⟨A, 1, none⟩ ⟨B, 1, none⟩ ⟨T5, 0, none⟩ ⟨T5, 1, none⟩ ⟨T5, 2, none⟩ ⟨T5, 3, none⟩ (.int .i32 ay) (.int .i32 by_) (.bool r5) (.slice o5 l5 c5) (.bool R5) (.slice O5 M5 C5) wq.heap.size wq wq.drew) := T6.dr hSW.out
  have FIN : Hid (∀ W' X, VL W' X yn td 23 → Below wq.heap.size wq W' → Q4 W' R (.bool false) (.slice none 0 0) (.bool false) (.slice none 0 0) ∧ Q4 W' S6 (.bool false) (.slice none 0 0) (.bool false) (.slice none 0 0) ∧ Below w.heap.size w W' ∧ TwoIs W' A ax ay ∧ TwoIs W' B bx by_ ∧ VL W' T5 tn td 18 ∧ VL W' X8 xn td 23) := fun W' X _ g => ⟨kR.mono g kR.lt, kS.mono g kS.lt, hB.trans (g.mono hB.size), ⟨below_cell ta.c0 g, below_cell ta.c1 g⟩, ⟨below_cell tb.c0 g, below_cell tb.c1 g⟩, VL.mono ⟨_, _, _, _, _, _, _, _, k5, z5.out⟩ g, V8.mono g⟩
  have lR := kR.lt
  have lS := kS.lt
  clear kR kS hB ta tb k5 V8
  go_region_held3 (T6 ⟨A, 1, none⟩ ⟨B, 1, none⟩ ⟨T5, 0, none⟩ ⟨T5, 1, none⟩ ⟨T5, 2, none⟩ ⟨T5, 3, none⟩ (.int .i32 ay) (.int .i32 by_) (.bool r5) (.slice o5 l5 c5) (.bool R5) (.slice O5 M5 C5) wq.heap.size wq)
    (repeat (first | with_reducible exact hS4.out | with_reducible exact hS3.out | with_reducible exact hS2.out | with_reducible exact hS1.out | with_reducible exact hS0.out | with_reducible exact hSW.out | (with_reducible refine T6.set ?_ (by simp only []; omega) hlt.out _) | (with_reducible refine T6.al ?_ hL _) | (with_reducible refine T6.dr ?_)))
    (first
        | (have _n := z3; go_at_call 38; refine (radd_rt _ _ ay 1 (tn * (by_ - ay)) td 2 20 _ (by first | with_reducible exact z1.out | with_reducible exact z1.out.al _) (by first | with_reducible exact z3.out | with_reducible exact z3.out.al _) (by omega)).mono ?_; rintro e y4 ⟨zz, rfl, hz, g4⟩; obtain ⟨r4q, o4q, l4q, c4q, R4q, O4q, M4q, C4q, rfl, z4⟩ := hz.shape; clear hz; replace z4 : Hid (Rt y4 (.agg #[.bool r4q, .slice o4q l4q c4q, .bool R4q, .slice O4q M4q C4q]) yn td 23) := hid' (z4.out.to (by rw [Int.mul_one]; exact hyn.out) (Int.one_mul td)); have B4 : Hid (Below wq.heap.size wq y4) := hid' (Below.trans (by (repeat (first | with_reducible exact B4.out | with_reducible exact B3.out | with_reducible exact B2.out | with_reducible exact B1.out | with_reducible exact B0.out | with_reducible exact BW.out | (with_reducible refine bl_drew ?_) | (with_reducible refine bl_alloc ?_ _)))) (g4.mono (Below.size (by (repeat (first | with_reducible exact B4.out | with_reducible exact B3.out | with_reducible exact B2.out | with_reducible exact B1.out | with_reducible exact B0.out | with_reducible exact BW.out | (with_reducible refine bl_drew ?_) | (with_reducible refine bl_alloc ?_ _))))))); have s4 := B4.out.size; have hS4 : Hid (T6 ⟨A, 1, none⟩ ⟨B, 1, none⟩ ⟨T5, 0, none⟩ ⟨T5, 1, none⟩ ⟨T5, 2, none⟩ ⟨T5, 3, none⟩ (.int .i32 ay) (.int .i32 by_) (.bool r5) (.slice o5 l5 c5) (.bool R5) (.slice O5 M5 C5) wq.heap.size wq y4) := ⟨below_cell hSW.out.1 B4.out, below_cell hSW.out.2.1 B4.out, below_cell hSW.out.2.2.1 B4.out, below_cell hSW.out.2.2.2.1 B4.out, below_cell hSW.out.2.2.2.2.1 B4.out, below_cell hSW.out.2.2.2.2.2.1 B4.out, B4.out⟩; first | (have m4 := m3.mono g4 m3.lt; have e4_0 := m4.c0; have e4_1 := m4.c1; have e4_2 := m4.c2; have e4_3 := m4.c3; have e4_f := m4.f) | (have m4 : Q4 y4 y3.heap.size (.bool false) (.slice none 0 0) (.bool false) (.slice none 0 0) := (by with_reducible exact Q4.nx g4); have e4_0 := m4.c0; have e4_1 := m4.c1; have e4_2 := m4.c2; have e4_3 := m4.c3; have e4_f := m4.f) | skip)
        | (have _n := z2; go_at_call 39; refine (rmul_rt _ _ tn td (by_ - ay) 1 18 2 _ (z5.out.mono (by (repeat (first | with_reducible exact B4.out | with_reducible exact B3.out | with_reducible exact B2.out | with_reducible exact B1.out | with_reducible exact B0.out | with_reducible exact BW.out | (with_reducible refine bl_drew ?_) | (with_reducible refine bl_alloc ?_ _))))) (by first | with_reducible exact z2.out | with_reducible exact z2.out.al _) (by omega) (by omega)).mono ?_; rintro e y3 ⟨zz, rfl, hz, g3⟩; obtain ⟨r3q, o3q, l3q, c3q, R3q, O3q, M3q, C3q, rfl, z3⟩ := hz.shape; clear hz; replace z3 : Hid (Rt y3 (.agg #[.bool r3q, .slice o3q l3q c3q, .bool R3q, .slice O3q M3q C3q]) (tn * (by_ - ay)) td 20) := hid' (z3.out.to rfl (Int.mul_one td)); have B3 : Hid (Below wq.heap.size wq y3) := hid' (Below.trans (by (repeat (first | with_reducible exact B4.out | with_reducible exact B3.out | with_reducible exact B2.out | with_reducible exact B1.out | with_reducible exact B0.out | with_reducible exact BW.out | (with_reducible refine bl_drew ?_) | (with_reducible refine bl_alloc ?_ _)))) (g3.mono (Below.size (by (repeat (first | with_reducible exact B4.out | with_reducible exact B3.out | with_reducible exact B2.out | with_reducible exact B1.out | with_reducible exact B0.out | with_reducible exact BW.out | (with_reducible refine bl_drew ?_) | (with_reducible refine bl_alloc ?_ _))))))); have s3 := B3.out.size; have hS3 : Hid (T6 ⟨A, 1, none⟩ ⟨B, 1, none⟩ ⟨T5, 0, none⟩ ⟨T5, 1, none⟩ ⟨T5, 2, none⟩ ⟨T5, 3, none⟩ (.int .i32 ay) (.int .i32 by_) (.bool r5) (.slice o5 l5 c5) (.bool R5) (.slice O5 M5 C5) wq.heap.size wq y3) := ⟨below_cell hSW.out.1 B3.out, below_cell hSW.out.2.1 B3.out, below_cell hSW.out.2.2.1 B3.out, below_cell hSW.out.2.2.2.1 B3.out, below_cell hSW.out.2.2.2.2.1 B3.out, below_cell hSW.out.2.2.2.2.2.1 B3.out, B3.out⟩; have zn1 : Rt y3 (.agg #[.bool r1q, .slice o1q l1q c1q, .bool R1q, .slice O1q M1q C1q]) ay 1 2 := Rt.mono (by first | with_reducible exact z1.out | with_reducible exact z1.out.al _) g3; replace z1 := hid' zn1; clear zn1; first | (have m3 := m2.mono g3 m2.lt; have e3_0 := m3.c0; have e3_1 := m3.c1; have e3_2 := m3.c2; have e3_3 := m3.c3; have e3_f := m3.f) | (have m3 : Q4 y3 y2.heap.size (.bool false) (.slice none 0 0) (.bool false) (.slice none 0 0) := (by with_reducible exact Q4.nx g3); have e3_0 := m3.c0; have e3_1 := m3.c1; have e3_2 := m3.c2; have e3_3 := m3.c3; have e3_f := m3.f) | skip)
        | (have _n := z1; go_at_call 26; refine (K1b.out _).mono ?_; rintro e y2 ⟨zz, rfl, hz, g2⟩; obtain ⟨r2q, o2q, l2q, c2q, R2q, O2q, M2q, C2q, rfl, z2⟩ := hz.shape; clear hz; have B2 : Hid (Below wq.heap.size wq y2) := hid' (Below.trans (by (repeat (first | with_reducible exact B4.out | with_reducible exact B3.out | with_reducible exact B2.out | with_reducible exact B1.out | with_reducible exact B0.out | with_reducible exact BW.out | (with_reducible refine bl_drew ?_) | (with_reducible refine bl_alloc ?_ _)))) (g2.mono (Below.size (by (repeat (first | with_reducible exact B4.out | with_reducible exact B3.out | with_reducible exact B2.out | with_reducible exact B1.out | with_reducible exact B0.out | with_reducible exact BW.out | (with_reducible refine bl_drew ?_) | (with_reducible refine bl_alloc ?_ _))))))); have s2 := B2.out.size; have hS2 : Hid (T6 ⟨A, 1, none⟩ ⟨B, 1, none⟩ ⟨T5, 0, none⟩ ⟨T5, 1, none⟩ ⟨T5, 2, none⟩ ⟨T5, 3, none⟩ (.int .i32 ay) (.int .i32 by_) (.bool r5) (.slice o5 l5 c5) (.bool R5) (.slice O5 M5 C5) wq.heap.size wq y2) := ⟨below_cell hSW.out.1 B2.out, below_cell hSW.out.2.1 B2.out, below_cell hSW.out.2.2.1 B2.out, below_cell hSW.out.2.2.2.1 B2.out, below_cell hSW.out.2.2.2.2.1 B2.out, below_cell hSW.out.2.2.2.2.2.1 B2.out, B2.out⟩; have zn1 : Rt y2 (.agg #[.bool r1q, .slice o1q l1q c1q, .bool R1q, .slice O1q M1q C1q]) ay 1 2 := Rt.mono (by first | with_reducible exact z1.out | with_reducible exact z1.out.al _) g2; replace z1 := hid' zn1; clear zn1; first | (have m2 := m1.mono g2 m1.lt; have e2_0 := m2.c0; have e2_1 := m2.c1; have e2_2 := m2.c2; have e2_3 := m2.c3; have e2_f := m2.f) | (have m2 : Q4 y2 y1.heap.size (.bool false) (.slice none 0 0) (.bool false) (.slice none 0 0) := (by with_reducible exact Q4.nx g2); have e2_0 := m2.c0; have e2_1 := m2.c1; have e2_2 := m2.c2; have e2_3 := m2.c3; have e2_f := m2.f) | skip)
        | (go_at_call 26; refine (K1a.out _).mono ?_; rintro e y1 ⟨zz, rfl, hz, g1⟩; obtain ⟨r1q, o1q, l1q, c1q, R1q, O1q, M1q, C1q, rfl, z1⟩ := hz.shape; clear hz; have B1 : Hid (Below wq.heap.size wq y1) := hid' (Below.trans (by (repeat (first | with_reducible exact B4.out | with_reducible exact B3.out | with_reducible exact B2.out | with_reducible exact B1.out | with_reducible exact B0.out | with_reducible exact BW.out | (with_reducible refine bl_drew ?_) | (with_reducible refine bl_alloc ?_ _)))) (g1.mono (Below.size (by (repeat (first | with_reducible exact B4.out | with_reducible exact B3.out | with_reducible exact B2.out | with_reducible exact B1.out | with_reducible exact B0.out | with_reducible exact BW.out | (with_reducible refine bl_drew ?_) | (with_reducible refine bl_alloc ?_ _))))))); have s1 := B1.out.size; have hS1 : Hid (T6 ⟨A, 1, none⟩ ⟨B, 1, none⟩ ⟨T5, 0, none⟩ ⟨T5, 1, none⟩ ⟨T5, 2, none⟩ ⟨T5, 3, none⟩ (.int .i32 ay) (.int .i32 by_) (.bool r5) (.slice o5 l5 c5) (.bool R5) (.slice O5 M5 C5) wq.heap.size wq y1) := ⟨below_cell hSW.out.1 B1.out, below_cell hSW.out.2.1 B1.out, below_cell hSW.out.2.2.1 B1.out, below_cell hSW.out.2.2.2.1 B1.out, below_cell hSW.out.2.2.2.2.1 B1.out, below_cell hSW.out.2.2.2.2.2.1 B1.out, B1.out⟩; first | (have m1 : Q4 y1 wq.heap.size (.bool false) (.slice none 0 0) (.bool false) (.slice none 0 0) := (by with_reducible exact Q4.nw g1); have e1_0 := m1.c0; have e1_1 := m1.c1; have e1_2 := m1.c2; have e1_3 := m1.c3; have e1_f := m1.f) | skip))
  · have v := hid' (VL.new z4.out)
    have f := hid' (FIN.out _ _ v.out (bl_alloc B4.out _))
    go_upto_region 3 with fail
    exact at_t3 w _ R S6 xn yn td X8 _ hR hS hRS f.out.1 f.out.2.1 f.out.2.2.1 f.out.2.2.2.2.2.2 v.out h8S (by omega) _ rfl _ (by assumption)
  · have v := hid' (VL.put m4 z4.out)
    have f := hid' (FIN.out _ _ v.out (four_set B4.out (by omega)))
    go_upto_region 3 with fail
    exact at_t3 w _ R S6 xn yn td X8 _ hR hS hRS f.out.1 f.out.2.1 f.out.2.2.1 f.out.2.2.2.2.2.2 v.out h8S (by omega) _ rfl _ (by assumption)
  · have v := hid' (VL.put m4 z4.out)
    have f := hid' (FIN.out _ _ v.out (four_set B4.out (by omega)))
    go_upto_region 3 with fail
    exact at_t3 w _ R S6 xn yn td X8 _ hR hS hRS f.out.1 f.out.2.1 f.out.2.2.1 f.out.2.2.2.2.2.2 v.out h8S (by omega) _ rfl _ (by assumption)
  · have v := hid' (VL.put m4 z4.out)
    have f := hid' (FIN.out _ _ v.out (four_set B4.out (by omega)))
    go_upto_region 3 with fail
    exact at_t3 w _ R S6 xn yn td X8 _ hR hS hRS f.out.1 f.out.2.1 f.out.2.2.1 f.out.2.2.2.2.2.2 v.out h8S (by omega) _ rfl _ (by assumption)
  · have v := hid' (VL.put m4 z4.out)
    have f := hid' (FIN.out _ _ v.out (four_set B4.out (by omega)))
    go_upto_region 3 with fail
    exact at_t3 w _ R S6 xn yn td X8 _ hR hS hRS f.out.1 f.out.2.1 f.out.2.2.1 f.out.2.2.2.2.2.2 v.out h8S (by omega) _ rfl _ (by assumption)
set_option maxRecDepth 20000 in
set_option maxHeartbeats 4000000 in
theorem at_t1 {u0 u1 u2 u8 u9 u10 u11 u12 u13 u14 u15 u16 u17 u18 u19 u20 u21 u22 u23 u24 u25 u26 u27 u28 u29 u30 u31 u32 u33 u34 u35 u36 u37 u38 u39 u40 u41 : Value} (w wq : World) (R S6 : Nat) (xn yn td : Int) (A B T5 : Nat) (ax ay bx by_ tn : Int)  (hR : w.heap.size ≤ R) (hS : w.heap.size ≤ S6) (hRS : R ≠ S6) (kR : Q4 wq R (.bool false) (.slice none 0 0) (.bool false) (.slice none 0 0)) (kS : Q4 wq S6 (.bool false) (.slice none 0 0) (.bool false) (.slice none 0 0)) (hB : Below w.heap.size w wq) (ta : TwoIs wq A ax ay) (tb : TwoIs wq B bx by_) (VT : VL wq T5 tn td 18) (K0a : Hid (∀ W, Calls Try.prog 26 #[.int .i64 (IntKind.i64.wrap ax)] W fun e w' => ∃ z, e = .returned z ∧ Rt w' z ax 1 2 ∧ Below W.heap.size W w')) (K0b : Hid (∀ W, Calls Try.prog 26 #[.int .i64 (IntKind.i64.wrap (IntKind.i64.wrap bx - IntKind.i64.wrap ax))] W fun e w' => ∃ z, e = .returned z ∧ Rt w' z (bx - ax) 1 2 ∧ Below W.heap.size W w')) (hxn : Hid (ax * td + tn * (bx - ax) = xn)) (K1a : Hid (∀ W, Calls Try.prog 26 #[.int .i64 (IntKind.i64.wrap ay)] W fun e w' => ∃ z, e = .returned z ∧ Rt w' z ay 1 2 ∧ Below W.heap.size W w')) (K1b : Hid (∀ W, Calls Try.prog 26 #[.int .i64 (IntKind.i64.wrap (IntKind.i64.wrap by_ - IntKind.i64.wrap ay))] W fun e w' => ∃ z, e = .returned z ∧ Rt w' z (by_ - ay) 1 2 ∧ Below W.heap.size W w')) (hyn : Hid (ay * td + tn * (by_ - ay) = yn)) (Q : Exit → Act → World → Prop) (hQ : Q = bodyPost Try.prog Try.f36 (fun e w' => ∃ x y, e = .returned (.tuple #[x, y]) ∧ Rt w' x xn td 23 ∧ Rt w' y yn td 23 ∧ Below w.heap.size w w')) (K : Act → World → Prop) (hK : ∀ a w, Code.wp Try.prog (codeTail 2 (codeOf Try.f36)) Q a w → K a w) :
    Code.wp Try.prog (codeHead 1 (codeOf Try.f36)) (Exit.then K Q) { tmps := #[u0, u1, u2, .pointer (some ⟨A, 0, none⟩), .pointer (some ⟨B, 0, none⟩), .pointer (some ⟨T5, 0, none⟩), .pointer (some ⟨R, 0, none⟩), .pointer (some ⟨S6, 0, none⟩), u8, u9, u10, u11, u12, u13, u14, u15, u16, u17, u18, u19, u20, u21, u22, u23, u24, u25, u26, u27, u28, u29, u30, u31, u32, u33, u34, u35, u36, u37, u38, u39, u40, u41], defers := [] } wq := by
  dsimp only [codeHead, codeTail, codeOf, Try.f36, Option.getD] at hK ⊢
  subst hQ
  obtain ⟨r5, o5, l5, c5, R5, O5, M5, C5, k5, z5⟩ := VT
  replace z5 := hid' z5
  have hL : wq.heap.size ≤ wq.heap.size := Nat.le_refl _
  have hlt : Hid (Addr.block ⟨A, 0, none⟩ < wq.heap.size ∧ Addr.block ⟨B, 0, none⟩ < wq.heap.size ∧ Addr.block ⟨T5, 0, none⟩ < wq.heap.size ∧ Addr.block ⟨T5, 1, none⟩ < wq.heap.size ∧ Addr.block ⟨T5, 2, none⟩ < wq.heap.size ∧ Addr.block ⟨T5, 3, none⟩ < wq.heap.size) := ⟨ta.lt, tb.lt, k5.lt, k5.lt, k5.lt, k5.lt⟩
  have BW : Hid (Below wq.heap.size wq wq) := Below.refl _ _
  have B0 : Hid (Below wq.heap.size wq wq.drew) := (Below.refl _ _).drew
  have hSW : Hid (T6 ⟨A, 0, none⟩ ⟨B, 0, none⟩ ⟨T5, 0, none⟩ ⟨T5, 1, none⟩ ⟨T5, 2, none⟩ ⟨T5, 3, none⟩ (.int .i32 ax) (.int .i32 bx) (.bool r5) (.slice o5 l5 c5) (.bool R5) (.slice O5 M5 C5) wq.heap.size wq wq) := ⟨ta.c0, tb.c0, k5.c0, k5.c1, k5.c2, k5.c3, Below.refl _ _⟩
  have hS0 : Hid (T6 ⟨A, 0, none⟩ ⟨B, 0, none⟩ ⟨T5, 0, none⟩ ⟨T5, 1, none⟩ ⟨T5, 2, none⟩ ⟨T5, 3, none⟩ (.int .i32 ax) (.int .i32 bx) (.bool r5) (.slice o5 l5 c5) (.bool R5) (.slice O5 M5 C5) wq.heap.size wq wq.drew) := T6.dr hSW.out
  have FIN : Hid (∀ W' X, VL W' X xn td 23 → Below wq.heap.size wq W' → Q4 W' R (.bool false) (.slice none 0 0) (.bool false) (.slice none 0 0) ∧ Q4 W' S6 (.bool false) (.slice none 0 0) (.bool false) (.slice none 0 0) ∧ Below w.heap.size w W' ∧ TwoIs W' A ax ay ∧ TwoIs W' B bx by_ ∧ VL W' T5 tn td 18) := fun W' X _ g => ⟨kR.mono g kR.lt, kS.mono g kS.lt, hB.trans (g.mono hB.size), ⟨below_cell ta.c0 g, below_cell ta.c1 g⟩, ⟨below_cell tb.c0 g, below_cell tb.c1 g⟩, VL.mono ⟨_, _, _, _, _, _, _, _, k5, z5.out⟩ g⟩
  have lR := kR.lt
  have lS := kS.lt
  clear kR kS hB ta tb k5
  go_region_held3 (T6 ⟨A, 0, none⟩ ⟨B, 0, none⟩ ⟨T5, 0, none⟩ ⟨T5, 1, none⟩ ⟨T5, 2, none⟩ ⟨T5, 3, none⟩ (.int .i32 ax) (.int .i32 bx) (.bool r5) (.slice o5 l5 c5) (.bool R5) (.slice O5 M5 C5) wq.heap.size wq)
    (repeat (first | with_reducible exact hS4.out | with_reducible exact hS3.out | with_reducible exact hS2.out | with_reducible exact hS1.out | with_reducible exact hS0.out | with_reducible exact hSW.out | (with_reducible refine T6.set ?_ (by simp only []; omega) hlt.out _) | (with_reducible refine T6.al ?_ hL _) | (with_reducible refine T6.dr ?_)))
    (first
        | (have _n := z3; go_at_call 38; refine (radd_rt _ _ ax 1 (tn * (bx - ax)) td 2 20 _ (by first | with_reducible exact z1.out | with_reducible exact z1.out.al _) (by first | with_reducible exact z3.out | with_reducible exact z3.out.al _) (by omega)).mono ?_; rintro e y4 ⟨zz, rfl, hz, g4⟩; obtain ⟨r4q, o4q, l4q, c4q, R4q, O4q, M4q, C4q, rfl, z4⟩ := hz.shape; clear hz; replace z4 : Hid (Rt y4 (.agg #[.bool r4q, .slice o4q l4q c4q, .bool R4q, .slice O4q M4q C4q]) xn td 23) := hid' (z4.out.to (by rw [Int.mul_one]; exact hxn.out) (Int.one_mul td)); have B4 : Hid (Below wq.heap.size wq y4) := hid' (Below.trans (by (repeat (first | with_reducible exact B4.out | with_reducible exact B3.out | with_reducible exact B2.out | with_reducible exact B1.out | with_reducible exact B0.out | with_reducible exact BW.out | (with_reducible refine bl_drew ?_) | (with_reducible refine bl_alloc ?_ _)))) (g4.mono (Below.size (by (repeat (first | with_reducible exact B4.out | with_reducible exact B3.out | with_reducible exact B2.out | with_reducible exact B1.out | with_reducible exact B0.out | with_reducible exact BW.out | (with_reducible refine bl_drew ?_) | (with_reducible refine bl_alloc ?_ _))))))); have s4 := B4.out.size; have hS4 : Hid (T6 ⟨A, 0, none⟩ ⟨B, 0, none⟩ ⟨T5, 0, none⟩ ⟨T5, 1, none⟩ ⟨T5, 2, none⟩ ⟨T5, 3, none⟩ (.int .i32 ax) (.int .i32 bx) (.bool r5) (.slice o5 l5 c5) (.bool R5) (.slice O5 M5 C5) wq.heap.size wq y4) := ⟨below_cell hSW.out.1 B4.out, below_cell hSW.out.2.1 B4.out, below_cell hSW.out.2.2.1 B4.out, below_cell hSW.out.2.2.2.1 B4.out, below_cell hSW.out.2.2.2.2.1 B4.out, below_cell hSW.out.2.2.2.2.2.1 B4.out, B4.out⟩; first | (have m4 := m3.mono g4 m3.lt; have e4_0 := m4.c0; have e4_1 := m4.c1; have e4_2 := m4.c2; have e4_3 := m4.c3; have e4_f := m4.f) | (have m4 : Q4 y4 y3.heap.size (.bool false) (.slice none 0 0) (.bool false) (.slice none 0 0) := (by with_reducible exact Q4.nx g4); have e4_0 := m4.c0; have e4_1 := m4.c1; have e4_2 := m4.c2; have e4_3 := m4.c3; have e4_f := m4.f) | skip)
        | (have _n := z2; go_at_call 39; refine (rmul_rt _ _ tn td (bx - ax) 1 18 2 _ (z5.out.mono (by (repeat (first | with_reducible exact B4.out | with_reducible exact B3.out | with_reducible exact B2.out | with_reducible exact B1.out | with_reducible exact B0.out | with_reducible exact BW.out | (with_reducible refine bl_drew ?_) | (with_reducible refine bl_alloc ?_ _))))) (by first | with_reducible exact z2.out | with_reducible exact z2.out.al _) (by omega) (by omega)).mono ?_; rintro e y3 ⟨zz, rfl, hz, g3⟩; obtain ⟨r3q, o3q, l3q, c3q, R3q, O3q, M3q, C3q, rfl, z3⟩ := hz.shape; clear hz; replace z3 : Hid (Rt y3 (.agg #[.bool r3q, .slice o3q l3q c3q, .bool R3q, .slice O3q M3q C3q]) (tn * (bx - ax)) td 20) := hid' (z3.out.to rfl (Int.mul_one td)); have B3 : Hid (Below wq.heap.size wq y3) := hid' (Below.trans (by (repeat (first | with_reducible exact B4.out | with_reducible exact B3.out | with_reducible exact B2.out | with_reducible exact B1.out | with_reducible exact B0.out | with_reducible exact BW.out | (with_reducible refine bl_drew ?_) | (with_reducible refine bl_alloc ?_ _)))) (g3.mono (Below.size (by (repeat (first | with_reducible exact B4.out | with_reducible exact B3.out | with_reducible exact B2.out | with_reducible exact B1.out | with_reducible exact B0.out | with_reducible exact BW.out | (with_reducible refine bl_drew ?_) | (with_reducible refine bl_alloc ?_ _))))))); have s3 := B3.out.size; have hS3 : Hid (T6 ⟨A, 0, none⟩ ⟨B, 0, none⟩ ⟨T5, 0, none⟩ ⟨T5, 1, none⟩ ⟨T5, 2, none⟩ ⟨T5, 3, none⟩ (.int .i32 ax) (.int .i32 bx) (.bool r5) (.slice o5 l5 c5) (.bool R5) (.slice O5 M5 C5) wq.heap.size wq y3) := ⟨below_cell hSW.out.1 B3.out, below_cell hSW.out.2.1 B3.out, below_cell hSW.out.2.2.1 B3.out, below_cell hSW.out.2.2.2.1 B3.out, below_cell hSW.out.2.2.2.2.1 B3.out, below_cell hSW.out.2.2.2.2.2.1 B3.out, B3.out⟩; have zn1 : Rt y3 (.agg #[.bool r1q, .slice o1q l1q c1q, .bool R1q, .slice O1q M1q C1q]) ax 1 2 := Rt.mono (by first | with_reducible exact z1.out | with_reducible exact z1.out.al _) g3; replace z1 := hid' zn1; clear zn1; first | (have m3 := m2.mono g3 m2.lt; have e3_0 := m3.c0; have e3_1 := m3.c1; have e3_2 := m3.c2; have e3_3 := m3.c3; have e3_f := m3.f) | (have m3 : Q4 y3 y2.heap.size (.bool false) (.slice none 0 0) (.bool false) (.slice none 0 0) := (by with_reducible exact Q4.nx g3); have e3_0 := m3.c0; have e3_1 := m3.c1; have e3_2 := m3.c2; have e3_3 := m3.c3; have e3_f := m3.f) | skip)
        | (have _n := z1; go_at_call 26; refine (K0b.out _).mono ?_; rintro e y2 ⟨zz, rfl, hz, g2⟩; obtain ⟨r2q, o2q, l2q, c2q, R2q, O2q, M2q, C2q, rfl, z2⟩ := hz.shape; clear hz; have B2 : Hid (Below wq.heap.size wq y2) := hid' (Below.trans (by (repeat (first | with_reducible exact B4.out | with_reducible exact B3.out | with_reducible exact B2.out | with_reducible exact B1.out | with_reducible exact B0.out | with_reducible exact BW.out | (with_reducible refine bl_drew ?_) | (with_reducible refine bl_alloc ?_ _)))) (g2.mono (Below.size (by (repeat (first | with_reducible exact B4.out | with_reducible exact B3.out | with_reducible exact B2.out | with_reducible exact B1.out | with_reducible exact B0.out | with_reducible exact BW.out | (with_reducible refine bl_drew ?_) | (with_reducible refine bl_alloc ?_ _))))))); have s2 := B2.out.size; have hS2 : Hid (T6 ⟨A, 0, none⟩ ⟨B, 0, none⟩ ⟨T5, 0, none⟩ ⟨T5, 1, none⟩ ⟨T5, 2, none⟩ ⟨T5, 3, none⟩ (.int .i32 ax) (.int .i32 bx) (.bool r5) (.slice o5 l5 c5) (.bool R5) (.slice O5 M5 C5) wq.heap.size wq y2) := ⟨below_cell hSW.out.1 B2.out, below_cell hSW.out.2.1 B2.out, below_cell hSW.out.2.2.1 B2.out, below_cell hSW.out.2.2.2.1 B2.out, below_cell hSW.out.2.2.2.2.1 B2.out, below_cell hSW.out.2.2.2.2.2.1 B2.out, B2.out⟩; have zn1 : Rt y2 (.agg #[.bool r1q, .slice o1q l1q c1q, .bool R1q, .slice O1q M1q C1q]) ax 1 2 := Rt.mono (by first | with_reducible exact z1.out | with_reducible exact z1.out.al _) g2; replace z1 := hid' zn1; clear zn1; first | (have m2 := m1.mono g2 m1.lt; have e2_0 := m2.c0; have e2_1 := m2.c1; have e2_2 := m2.c2; have e2_3 := m2.c3; have e2_f := m2.f) | (have m2 : Q4 y2 y1.heap.size (.bool false) (.slice none 0 0) (.bool false) (.slice none 0 0) := (by with_reducible exact Q4.nx g2); have e2_0 := m2.c0; have e2_1 := m2.c1; have e2_2 := m2.c2; have e2_3 := m2.c3; have e2_f := m2.f) | skip)
        | (go_at_call 26; refine (K0a.out _).mono ?_; rintro e y1 ⟨zz, rfl, hz, g1⟩; obtain ⟨r1q, o1q, l1q, c1q, R1q, O1q, M1q, C1q, rfl, z1⟩ := hz.shape; clear hz; have B1 : Hid (Below wq.heap.size wq y1) := hid' (Below.trans (by (repeat (first | with_reducible exact B4.out | with_reducible exact B3.out | with_reducible exact B2.out | with_reducible exact B1.out | with_reducible exact B0.out | with_reducible exact BW.out | (with_reducible refine bl_drew ?_) | (with_reducible refine bl_alloc ?_ _)))) (g1.mono (Below.size (by (repeat (first | with_reducible exact B4.out | with_reducible exact B3.out | with_reducible exact B2.out | with_reducible exact B1.out | with_reducible exact B0.out | with_reducible exact BW.out | (with_reducible refine bl_drew ?_) | (with_reducible refine bl_alloc ?_ _))))))); have s1 := B1.out.size; have hS1 : Hid (T6 ⟨A, 0, none⟩ ⟨B, 0, none⟩ ⟨T5, 0, none⟩ ⟨T5, 1, none⟩ ⟨T5, 2, none⟩ ⟨T5, 3, none⟩ (.int .i32 ax) (.int .i32 bx) (.bool r5) (.slice o5 l5 c5) (.bool R5) (.slice O5 M5 C5) wq.heap.size wq y1) := ⟨below_cell hSW.out.1 B1.out, below_cell hSW.out.2.1 B1.out, below_cell hSW.out.2.2.1 B1.out, below_cell hSW.out.2.2.2.1 B1.out, below_cell hSW.out.2.2.2.2.1 B1.out, below_cell hSW.out.2.2.2.2.2.1 B1.out, B1.out⟩; first | (have m1 : Q4 y1 wq.heap.size (.bool false) (.slice none 0 0) (.bool false) (.slice none 0 0) := (by with_reducible exact Q4.nw g1); have e1_0 := m1.c0; have e1_1 := m1.c1; have e1_2 := m1.c2; have e1_3 := m1.c3; have e1_f := m1.f) | skip))
  · have v := hid' (VL.new z4.out)
    have f := hid' (FIN.out _ _ v.out (bl_alloc B4.out _))
    go_upto_region 2 with fail
    exact at_t2 w _ R S6 xn yn td A B T5 ax ay bx by_ tn _ hR hS hRS f.out.1 f.out.2.1 f.out.2.2.1 f.out.2.2.2.1 f.out.2.2.2.2.1 f.out.2.2.2.2.2 v.out (by omega) K1a K1b hyn _ rfl _ (by assumption)
  · have v := hid' (VL.put m4 z4.out)
    have f := hid' (FIN.out _ _ v.out (four_set B4.out (by omega)))
    go_upto_region 2 with fail
    exact at_t2 w _ R S6 xn yn td A B T5 ax ay bx by_ tn _ hR hS hRS f.out.1 f.out.2.1 f.out.2.2.1 f.out.2.2.2.1 f.out.2.2.2.2.1 f.out.2.2.2.2.2 v.out (by omega) K1a K1b hyn _ rfl _ (by assumption)
  · have v := hid' (VL.put m4 z4.out)
    have f := hid' (FIN.out _ _ v.out (four_set B4.out (by omega)))
    go_upto_region 2 with fail
    exact at_t2 w _ R S6 xn yn td A B T5 ax ay bx by_ tn _ hR hS hRS f.out.1 f.out.2.1 f.out.2.2.1 f.out.2.2.2.1 f.out.2.2.2.2.1 f.out.2.2.2.2.2 v.out (by omega) K1a K1b hyn _ rfl _ (by assumption)
  · have v := hid' (VL.put m4 z4.out)
    have f := hid' (FIN.out _ _ v.out (four_set B4.out (by omega)))
    go_upto_region 2 with fail
    exact at_t2 w _ R S6 xn yn td A B T5 ax ay bx by_ tn _ hR hS hRS f.out.1 f.out.2.1 f.out.2.2.1 f.out.2.2.2.1 f.out.2.2.2.2.1 f.out.2.2.2.2.2 v.out (by omega) K1a K1b hyn _ rfl _ (by assumption)
  · have v := hid' (VL.put m4 z4.out)
    have f := hid' (FIN.out _ _ v.out (four_set B4.out (by omega)))
    go_upto_region 2 with fail
    exact at_t2 w _ R S6 xn yn td A B T5 ax ay bx by_ tn _ hR hS hRS f.out.1 f.out.2.1 f.out.2.2.1 f.out.2.2.2.1 f.out.2.2.2.2.1 f.out.2.2.2.2.2 v.out (by omega) K1a K1b hyn _ rfl _ (by assumption)
set_option maxRecDepth 20000 in
set_option maxHeartbeats 4000000 in
theorem at_rt (a b : P2) (v : Value) (tn td : Int) (w : World) (ha : ins a) (hb : ins b) (hv : Rt w v tn td 18) : Calls Try.prog 36 #[ptv a, ptv b, v] w fun e w' => ∃ x y, e = .returned (.tuple #[x, y]) ∧ Rt w' x (a.1 * td + tn * (b.1 - a.1)) td 23 ∧ Rt w' y (a.2 * td + tn * (b.2 - a.2)) td 23 ∧ Below w.heap.size w w' := by
  obtain ⟨ax, ay⟩ := a
  obtain ⟨bx, by_⟩ := b
  obtain ⟨i1, j1⟩ := ha
  obtain ⟨i2, j2⟩ := hb
  obtain ⟨r1, o1, l1, c1, R1, O1, M1, C1, rfl, z1⟩ := hv.shape
  simp only at i1 j1 i2 j2 ⊢
  obtain ⟨xn, hxn⟩ : ∃ xn, ax * td + tn * (bx - ax) = xn := ⟨_, rfl⟩
  obtain ⟨yn, hyn⟩ : ∃ yn, ay * td + tn * (by_ - ay) = yn := ⟨_, rfl⟩
  rw [hxn, hyn]
  replace hxn := hid' hxn
  replace hyn := hid' hyn
  have hw : ∀ x y, in32 x → in32 y → IntKind.i64.wrap (IntKind.i64.wrap x - IntKind.i64.wrap y) = x - y := fun x y h k => by rw [IntKind.wrap_i64, IntKind.wrap_i64, IntKind.wrap_i64]; unfold in32 at *; omega
  have hw1 : ∀ x, in32 x → IntKind.i64.wrap x = x := fun x h => by rw [IntKind.wrap_i64]; unfold in32 at *; omega
  have K0a : Hid (∀ W, Calls Try.prog 26 #[.int .i64 (IntKind.i64.wrap ax)] W fun e w' => ∃ z, e = .returned z ∧ Rt w' z ax 1 2 ∧ Below W.heap.size W w') := fun W => by rw [hw1 _ i1]; exact whole_rt ax W (by unfold in32 at i1; omega) (by unfold in32 at i1; omega)
  have K1a : Hid (∀ W, Calls Try.prog 26 #[.int .i64 (IntKind.i64.wrap ay)] W fun e w' => ∃ z, e = .returned z ∧ Rt w' z ay 1 2 ∧ Below W.heap.size W w') := fun W => by rw [hw1 _ j1]; exact whole_rt ay W (by unfold in32 at j1; omega) (by unfold in32 at j1; omega)
  have K0b : Hid (∀ W, Calls Try.prog 26 #[.int .i64 (IntKind.i64.wrap (IntKind.i64.wrap bx - IntKind.i64.wrap ax))] W fun e w' => ∃ z, e = .returned z ∧ Rt w' z (bx - ax) 1 2 ∧ Below W.heap.size W w') := fun W => by rw [hw _ _ i2 i1]; exact whole_rt (bx - ax) W (dif64 i2 i1).1 (dif64 i2 i1).2
  have K1b : Hid (∀ W, Calls Try.prog 26 #[.int .i64 (IntKind.i64.wrap (IntKind.i64.wrap by_ - IntKind.i64.wrap ay))] W fun e w' => ∃ z, e = .returned z ∧ Rt w' z (by_ - ay) 1 2 ∧ Below W.heap.size W w') := fun W => by rw [hw _ _ j2 j1]; exact whole_rt (by_ - ay) W (dif64 j2 j1).1 (dif64 j2 j1).2
  clear hw hw1 i1 j1 i2 j2 hv
  have hB : Below w.heap.size w (((((w.alloc (.cells #[.int .i32 ax, .int .i32 ay] 23)).alloc (.cells #[.int .i32 bx, .int .i32 by_] 23)).alloc (.cells #[.bool r1, .slice o1 l1 c1, .bool R1, .slice O1 M1 C1] 53)).alloc (.cells #[.bool false, .slice none 0 0, .bool false, .slice none 0 0] 53)).alloc (.cells #[.bool false, .slice none 0 0, .bool false, .slice none 0 0] 53)) := ((((((Gr.refl _).alloc _).alloc _).alloc _).alloc _).alloc _).below
  have ta : TwoIs (((((w.alloc (.cells #[.int .i32 ax, .int .i32 ay] 23)).alloc (.cells #[.int .i32 bx, .int .i32 by_] 23)).alloc (.cells #[.bool r1, .slice o1 l1 c1, .bool R1, .slice O1 M1 C1] 53)).alloc (.cells #[.bool false, .slice none 0 0, .bool false, .slice none 0 0] 53)).alloc (.cells #[.bool false, .slice none 0 0, .bool false, .slice none 0 0] 53)) w.heap.size ax ay := ⟨by go_simp, by go_simp⟩
  have tb : TwoIs (((((w.alloc (.cells #[.int .i32 ax, .int .i32 ay] 23)).alloc (.cells #[.int .i32 bx, .int .i32 by_] 23)).alloc (.cells #[.bool r1, .slice o1 l1 c1, .bool R1, .slice O1 M1 C1] 53)).alloc (.cells #[.bool false, .slice none 0 0, .bool false, .slice none 0 0] 53)).alloc (.cells #[.bool false, .slice none 0 0, .bool false, .slice none 0 0] 53)) (w.heap.size + 1) bx by_ := ⟨by go_simp, by go_simp⟩
  have VT : VL (((((w.alloc (.cells #[.int .i32 ax, .int .i32 ay] 23)).alloc (.cells #[.int .i32 bx, .int .i32 by_] 23)).alloc (.cells #[.bool r1, .slice o1 l1 c1, .bool R1, .slice O1 M1 C1] 53)).alloc (.cells #[.bool false, .slice none 0 0, .bool false, .slice none 0 0] 53)).alloc (.cells #[.bool false, .slice none 0 0, .bool false, .slice none 0 0] 53)) (w.heap.size + 1 + 1) tn td 18 := by
    have h := VL.new (w := ((w.alloc (.cells #[.int .i32 ax, .int .i32 ay] 23)).alloc (.cells #[.int .i32 bx, .int .i32 by_] 23))) (z1.out.mono (((Gr.refl w).alloc _).alloc _).below)
    have h' := h.mono (((Gr.refl _).alloc (.cells #[.bool false, .slice none 0 0, .bool false, .slice none 0 0] 53)).alloc (.cells #[.bool false, .slice none 0 0, .bool false, .slice none 0 0] 53)).below
    simpa using h'
  have kR : Q4 (((((w.alloc (.cells #[.int .i32 ax, .int .i32 ay] 23)).alloc (.cells #[.int .i32 bx, .int .i32 by_] 23)).alloc (.cells #[.bool r1, .slice o1 l1 c1, .bool R1, .slice O1 M1 C1] 53)).alloc (.cells #[.bool false, .slice none 0 0, .bool false, .slice none 0 0] 53)).alloc (.cells #[.bool false, .slice none 0 0, .bool false, .slice none 0 0] 53)) (w.heap.size + 1 + 1 + 1) (.bool false) (.slice none 0 0) (.bool false) (.slice none 0 0) := by
    have h := Q4.new (((w.alloc (.cells #[.int .i32 ax, .int .i32 ay] 23)).alloc (.cells #[.int .i32 bx, .int .i32 by_] 23)).alloc (.cells #[.bool r1, .slice o1 l1 c1, .bool R1, .slice O1 M1 C1] 53)) (.bool false) (.slice none 0 0) (.bool false) (.slice none 0 0)
    have h' := h.gr ((Gr.refl _).alloc (.cells #[.bool false, .slice none 0 0, .bool false, .slice none 0 0] 53))
    simpa using h'
  have kS : Q4 (((((w.alloc (.cells #[.int .i32 ax, .int .i32 ay] 23)).alloc (.cells #[.int .i32 bx, .int .i32 by_] 23)).alloc (.cells #[.bool r1, .slice o1 l1 c1, .bool R1, .slice O1 M1 C1] 53)).alloc (.cells #[.bool false, .slice none 0 0, .bool false, .slice none 0 0] 53)).alloc (.cells #[.bool false, .slice none 0 0, .bool false, .slice none 0 0] 53)) (w.heap.size + 1 + 1 + 1 + 1) (.bool false) (.slice none 0 0) (.bool false) (.slice none 0 0) := by
    have h := Q4.new ((((w.alloc (.cells #[.int .i32 ax, .int .i32 ay] 23)).alloc (.cells #[.int .i32 bx, .int .i32 by_] 23)).alloc (.cells #[.bool r1, .slice o1 l1 c1, .bool R1, .slice O1 M1 C1] 53)).alloc (.cells #[.bool false, .slice none 0 0, .bool false, .slice none 0 0] 53)) (.bool false) (.slice none 0 0) (.bool false) (.slice none 0 0)
    simpa using h
  clear z1
  show Calls Try.prog 36 #[pt ax ay, pt bx by_, .agg #[.bool r1, .slice o1 l1 c1, .bool R1, .slice O1 M1 C1]] w _
  go_enter Try.func36, Try.ntmps36
  go_upto_region 1 with fail
  generalize (((((w.alloc (.cells #[.int .i32 ax, .int .i32 ay] 23)).alloc (.cells #[.int .i32 bx, .int .i32 by_] 23)).alloc (.cells #[.bool r1, .slice o1 l1 c1, .bool R1, .slice O1 M1 C1] 53)).alloc (.cells #[.bool false, .slice none 0 0, .bool false, .slice none 0 0] 53)).alloc (.cells #[.bool false, .slice none 0 0, .bool false, .slice none 0 0] 53)) = W at *
  exact at_t1 w _ (w.heap.size + 1 + 1 + 1) (w.heap.size + 1 + 1 + 1 + 1) xn yn td w.heap.size (w.heap.size + 1) (w.heap.size + 1 + 1) ax ay bx by_ tn (by omega) (by omega) (by omega) kR kS hB ta tb VT K0a K0b hxn K1a K1b hyn _ rfl _ (by assumption)
end
section
open Go.RowKit Go.Sort

abbrev TC4 (a0 a1 a2 a3 : Addr) (v0 v1 v2 v3 : Value) (K : Nat) (W w : World) : Prop := w.cell? a0 = some v0 ∧ w.cell? a1 = some v1 ∧ w.cell? a2 = some v2 ∧ w.cell? a3 = some v3 ∧ Below K W w
theorem TC4.call {a0 a1 a2 a3 : Addr} {v0 v1 v2 v3 : Value} {K : Nat} {W w : World} {w' : World} (h : TC4 a0 a1 a2 a3 v0 v1 v2 v3 K W w) (hK : K ≤ W.heap.size) (g : Below w.heap.size w w') : TC4 a0 a1 a2 a3 v0 v1 v2 v3 K W w' :=
  ⟨below_cell h.1 g, below_cell h.2.1 g, below_cell h.2.2.1 g, below_cell h.2.2.2.1 g, h.2.2.2.2.trans (g.mono (Nat.le_trans hK h.2.2.2.2.size))⟩
theorem TC4.al {a0 a1 a2 a3 : Addr} {v0 v1 v2 v3 : Value} {K : Nat} {W w : World} (h : TC4 a0 a1 a2 a3 v0 v1 v2 v3 K W w) (hK : K ≤ W.heap.size) (o : Obj) : TC4 a0 a1 a2 a3 v0 v1 v2 v3 K W (w.alloc o) := TC4.call h hK ((Gr.refl _).alloc _).below
theorem TC4.dr {a0 a1 a2 a3 : Addr} {v0 v1 v2 v3 : Value} {K : Nat} {W w : World} (h : TC4 a0 a1 a2 a3 v0 v1 v2 v3 K W w) : TC4 a0 a1 a2 a3 v0 v1 v2 v3 K W w.drew := ⟨h.1, h.2.1, h.2.2.1, h.2.2.2.1, h.2.2.2.2.drew⟩
theorem TC4.set {a0 a1 a2 a3 : Addr} {v0 v1 v2 v3 : Value} {K : Nat} {W w : World} (h : TC4 a0 a1 a2 a3 v0 v1 v2 v3 K W w) {p : Addr} (hp : K ≤ p.block) (q : a0.block < K ∧ a1.block < K ∧ a2.block < K ∧ a3.block < K) (z : Value) : TC4 a0 a1 a2 a3 v0 v1 v2 v3 K W (w.setCell p z) :=
  have f : ∀ a : Addr, a.block < K → (w.setCell p z).cell? a = w.cell? a := fun a ha => World.cell?_setCell_far w p a z (by omega)
  ⟨(f _ q.1).trans h.1, (f _ q.2.1).trans h.2.1, (f _ q.2.2.1).trans h.2.2.1, (f _ q.2.2.2).trans h.2.2.2.1, h.2.2.2.2.setCell hp z⟩
abbrev TC5 (a0 a1 a2 a3 a4 : Addr) (v0 v1 v2 v3 v4 : Value) (K : Nat) (W w : World) : Prop := w.cell? a0 = some v0 ∧ w.cell? a1 = some v1 ∧ w.cell? a2 = some v2 ∧ w.cell? a3 = some v3 ∧ w.cell? a4 = some v4 ∧ Below K W w
theorem TC5.call {a0 a1 a2 a3 a4 : Addr} {v0 v1 v2 v3 v4 : Value} {K : Nat} {W w : World} {w' : World} (h : TC5 a0 a1 a2 a3 a4 v0 v1 v2 v3 v4 K W w) (hK : K ≤ W.heap.size) (g : Below w.heap.size w w') : TC5 a0 a1 a2 a3 a4 v0 v1 v2 v3 v4 K W w' :=
  ⟨below_cell h.1 g, below_cell h.2.1 g, below_cell h.2.2.1 g, below_cell h.2.2.2.1 g, below_cell h.2.2.2.2.1 g, h.2.2.2.2.2.trans (g.mono (Nat.le_trans hK h.2.2.2.2.2.size))⟩
theorem TC5.al {a0 a1 a2 a3 a4 : Addr} {v0 v1 v2 v3 v4 : Value} {K : Nat} {W w : World} (h : TC5 a0 a1 a2 a3 a4 v0 v1 v2 v3 v4 K W w) (hK : K ≤ W.heap.size) (o : Obj) : TC5 a0 a1 a2 a3 a4 v0 v1 v2 v3 v4 K W (w.alloc o) := TC5.call h hK ((Gr.refl _).alloc _).below
theorem TC5.dr {a0 a1 a2 a3 a4 : Addr} {v0 v1 v2 v3 v4 : Value} {K : Nat} {W w : World} (h : TC5 a0 a1 a2 a3 a4 v0 v1 v2 v3 v4 K W w) : TC5 a0 a1 a2 a3 a4 v0 v1 v2 v3 v4 K W w.drew := ⟨h.1, h.2.1, h.2.2.1, h.2.2.2.1, h.2.2.2.2.1, h.2.2.2.2.2.drew⟩
theorem TC5.set {a0 a1 a2 a3 a4 : Addr} {v0 v1 v2 v3 v4 : Value} {K : Nat} {W w : World} (h : TC5 a0 a1 a2 a3 a4 v0 v1 v2 v3 v4 K W w) {p : Addr} (hp : K ≤ p.block) (q : a0.block < K ∧ a1.block < K ∧ a2.block < K ∧ a3.block < K ∧ a4.block < K) (z : Value) : TC5 a0 a1 a2 a3 a4 v0 v1 v2 v3 v4 K W (w.setCell p z) :=
  have f : ∀ a : Addr, a.block < K → (w.setCell p z).cell? a = w.cell? a := fun a ha => World.cell?_setCell_far w p a z (by omega)
  ⟨(f _ q.1).trans h.1, (f _ q.2.1).trans h.2.1, (f _ q.2.2.1).trans h.2.2.1, (f _ q.2.2.2.1).trans h.2.2.2.1, (f _ q.2.2.2.2).trans h.2.2.2.2.1, h.2.2.2.2.2.setCell hp z⟩
abbrev TC8 (a0 a1 a2 a3 a4 a5 a6 a7 : Addr) (v0 v1 v2 v3 v4 v5 v6 v7 : Value) (K : Nat) (W w : World) : Prop := w.cell? a0 = some v0 ∧ w.cell? a1 = some v1 ∧ w.cell? a2 = some v2 ∧ w.cell? a3 = some v3 ∧ w.cell? a4 = some v4 ∧ w.cell? a5 = some v5 ∧ w.cell? a6 = some v6 ∧ w.cell? a7 = some v7 ∧ Below K W w
theorem TC8.call {a0 a1 a2 a3 a4 a5 a6 a7 : Addr} {v0 v1 v2 v3 v4 v5 v6 v7 : Value} {K : Nat} {W w : World} {w' : World} (h : TC8 a0 a1 a2 a3 a4 a5 a6 a7 v0 v1 v2 v3 v4 v5 v6 v7 K W w) (hK : K ≤ W.heap.size) (g : Below w.heap.size w w') : TC8 a0 a1 a2 a3 a4 a5 a6 a7 v0 v1 v2 v3 v4 v5 v6 v7 K W w' :=
  ⟨below_cell h.1 g, below_cell h.2.1 g, below_cell h.2.2.1 g, below_cell h.2.2.2.1 g, below_cell h.2.2.2.2.1 g, below_cell h.2.2.2.2.2.1 g, below_cell h.2.2.2.2.2.2.1 g, below_cell h.2.2.2.2.2.2.2.1 g, h.2.2.2.2.2.2.2.2.trans (g.mono (Nat.le_trans hK h.2.2.2.2.2.2.2.2.size))⟩
theorem TC8.al {a0 a1 a2 a3 a4 a5 a6 a7 : Addr} {v0 v1 v2 v3 v4 v5 v6 v7 : Value} {K : Nat} {W w : World} (h : TC8 a0 a1 a2 a3 a4 a5 a6 a7 v0 v1 v2 v3 v4 v5 v6 v7 K W w) (hK : K ≤ W.heap.size) (o : Obj) : TC8 a0 a1 a2 a3 a4 a5 a6 a7 v0 v1 v2 v3 v4 v5 v6 v7 K W (w.alloc o) := TC8.call h hK ((Gr.refl _).alloc _).below
theorem TC8.dr {a0 a1 a2 a3 a4 a5 a6 a7 : Addr} {v0 v1 v2 v3 v4 v5 v6 v7 : Value} {K : Nat} {W w : World} (h : TC8 a0 a1 a2 a3 a4 a5 a6 a7 v0 v1 v2 v3 v4 v5 v6 v7 K W w) : TC8 a0 a1 a2 a3 a4 a5 a6 a7 v0 v1 v2 v3 v4 v5 v6 v7 K W w.drew := ⟨h.1, h.2.1, h.2.2.1, h.2.2.2.1, h.2.2.2.2.1, h.2.2.2.2.2.1, h.2.2.2.2.2.2.1, h.2.2.2.2.2.2.2.1, h.2.2.2.2.2.2.2.2.drew⟩
theorem TC8.set {a0 a1 a2 a3 a4 a5 a6 a7 : Addr} {v0 v1 v2 v3 v4 v5 v6 v7 : Value} {K : Nat} {W w : World} (h : TC8 a0 a1 a2 a3 a4 a5 a6 a7 v0 v1 v2 v3 v4 v5 v6 v7 K W w) {p : Addr} (hp : K ≤ p.block) (q : a0.block < K ∧ a1.block < K ∧ a2.block < K ∧ a3.block < K ∧ a4.block < K ∧ a5.block < K ∧ a6.block < K ∧ a7.block < K) (z : Value) : TC8 a0 a1 a2 a3 a4 a5 a6 a7 v0 v1 v2 v3 v4 v5 v6 v7 K W (w.setCell p z) :=
  have f : ∀ a : Addr, a.block < K → (w.setCell p z).cell? a = w.cell? a := fun a ha => World.cell?_setCell_far w p a z (by omega)
  ⟨(f _ q.1).trans h.1, (f _ q.2.1).trans h.2.1, (f _ q.2.2.1).trans h.2.2.1, (f _ q.2.2.2.1).trans h.2.2.2.1, (f _ q.2.2.2.2.1).trans h.2.2.2.2.1, (f _ q.2.2.2.2.2.1).trans h.2.2.2.2.2.1, (f _ q.2.2.2.2.2.2.1).trans h.2.2.2.2.2.2.1, (f _ q.2.2.2.2.2.2.2).trans h.2.2.2.2.2.2.2.1, h.2.2.2.2.2.2.2.2.setCell hp z⟩
set_option maxRecDepth 20000 in
set_option maxHeartbeats 4000000 in
theorem near_t6 {u0 u1 u2 u4 u5 u6 u7 u8 u9 u10 u11 u12 u14 u15 u16 u17 u18 u19 u20 u21 u22 u23 u24 u25 u26 u27 u28 u29 u30 u31 u32 u33 u34 u35 u36 u37 u38 u39 u40 u41 u42 u43 u44 u45 u46 u47 u48 u49 u50 u51 u52 u53 u54 u55 u56 u57 u58 u59 u60 u61 u62 u63 u64 u65 u66 u67 : Value} (w wq : World) (B : Bool) (X13 : Nat) (r n d : Int) (hB : Below w.heap.size w wq) (V13 : VL wq X13 n d 120) (KR : Hid (∀ W, Calls Try.prog 26 #[.int .i64 (r)] W fun e w' => ∃ z, e = .returned z ∧ Rt w' z r 1 2 ∧ Below W.heap.size W w')) (E : Hid (B = decide (n ≤ r * r * d))) (Q : Exit → Act → World → Prop) (hQ : Q = bodyPost Try.prog Try.f14 (fun e w' => e = .returned (.bool B) ∧ Below w.heap.size w w')) (K : Act → World → Prop) (hK : ∀ a w, Code.wp Try.prog (codeTail 7 (codeOf Try.f14)) Q a w → K a w) :
    Code.wp Try.prog (codeHead 6 (codeOf Try.f14)) (Exit.then K Q) { tmps := #[u0, u1, u2, .int .i64 r, u4, u5, u6, u7, u8, u9, u10, u11, u12, .pointer (some ⟨X13, 0, none⟩), u14, u15, u16, u17, u18, u19, u20, u21, u22, u23, u24, u25, u26, u27, u28, u29, u30, u31, u32, u33, u34, u35, u36, u37, u38, u39, u40, u41, u42, u43, u44, u45, u46, u47, u48, u49, u50, u51, u52, u53, u54, u55, u56, u57, u58, u59, u60, u61, u62, u63, u64, u65, u66, u67], defers := [] } wq := by
  dsimp only [codeHead, codeTail, codeOf, Try.f14, Option.getD] at hK ⊢
  subst hQ
  obtain ⟨r13, o13, l13, c13, R13, O13, M13, C13, k13, z13x⟩ := V13
  replace z13x := hid' z13x
  have hL : wq.heap.size ≤ wq.heap.size := Nat.le_refl _
  have hlt : Hid (Addr.block ⟨X13, 0, none⟩ < wq.heap.size ∧ Addr.block ⟨X13, 1, none⟩ < wq.heap.size ∧ Addr.block ⟨X13, 2, none⟩ < wq.heap.size ∧ Addr.block ⟨X13, 3, none⟩ < wq.heap.size) := ⟨k13.lt, k13.lt, k13.lt, k13.lt⟩
  have BW : Hid (Below wq.heap.size wq wq) := Below.refl _ _
  have B0 : Hid (Below wq.heap.size wq wq.drew) := (Below.refl _ _).drew
  have hSW : Hid (TC4 ⟨X13, 0, none⟩ ⟨X13, 1, none⟩ ⟨X13, 2, none⟩ ⟨X13, 3, none⟩ (.bool r13) (.slice o13 l13 c13) (.bool R13) (.slice O13 M13 C13) wq.heap.size wq wq) := ⟨k13.c0, k13.c1, k13.c2, k13.c3, Below.refl _ _⟩
  have hS0 : Hid (TC4 ⟨X13, 0, none⟩ ⟨X13, 1, none⟩ ⟨X13, 2, none⟩ ⟨X13, 3, none⟩ (.bool r13) (.slice o13 l13 c13) (.bool R13) (.slice O13 M13 C13) wq.heap.size wq wq.drew) := TC4.dr hSW.out
  have FB := hid' (fun W' (g : Below wq.heap.size wq W') => hB.trans (g.mono hB.size))
  clear hB k13
  go_region_held3 (TC4 ⟨X13, 0, none⟩ ⟨X13, 1, none⟩ ⟨X13, 2, none⟩ ⟨X13, 3, none⟩ (.bool r13) (.slice o13 l13 c13) (.bool R13) (.slice O13 M13 C13) wq.heap.size wq)
    (repeat (first | with_reducible exact hS4.out | with_reducible exact hS3.out | with_reducible exact hS2.out | with_reducible exact hS1.out | with_reducible exact hS0.out | with_reducible exact hSW.out | (with_reducible refine TC4.set ?_ (by simp only []; omega) hlt.out _) | (with_reducible refine TC4.al ?_ hL _) | (with_reducible refine TC4.dr ?_)))
    (first
        | (have _n := z3; go_at_call 27; refine (rcmp_rt _ _ n d (r * r) 1 120 4 _ (z13x.out.mono (by (repeat (first | with_reducible exact B4.out | with_reducible exact B3.out | with_reducible exact B2.out | with_reducible exact B1.out | with_reducible exact B0.out | with_reducible exact BW.out | (with_reducible refine bl_drew ?_) | (with_reducible refine bl_alloc ?_ _))))) (by first | with_reducible exact z3.out | with_reducible exact z3.out.al _) (by omega)).mono ?_; rintro e y4 ⟨rfl, g4⟩; have B4 : Hid (Below wq.heap.size wq y4) := hid' (Below.trans (by (repeat (first | with_reducible exact B4.out | with_reducible exact B3.out | with_reducible exact B2.out | with_reducible exact B1.out | with_reducible exact B0.out | with_reducible exact BW.out | (with_reducible refine bl_drew ?_) | (with_reducible refine bl_alloc ?_ _)))) (g4.mono (Below.size (by (repeat (first | with_reducible exact B4.out | with_reducible exact B3.out | with_reducible exact B2.out | with_reducible exact B1.out | with_reducible exact B0.out | with_reducible exact BW.out | (with_reducible refine bl_drew ?_) | (with_reducible refine bl_alloc ?_ _))))))); have s4 := B4.out.size; have hS4 : Hid (TC4 ⟨X13, 0, none⟩ ⟨X13, 1, none⟩ ⟨X13, 2, none⟩ ⟨X13, 3, none⟩ (.bool r13) (.slice o13 l13 c13) (.bool R13) (.slice O13 M13 C13) wq.heap.size wq y4) := ⟨below_cell hSW.out.1 B4.out, below_cell hSW.out.2.1 B4.out, below_cell hSW.out.2.2.1 B4.out, below_cell hSW.out.2.2.2.1 B4.out, B4.out⟩)
        | (have _n := z2; go_at_call 39; refine (rmul_rt _ _ r 1 r 1 2 2 _ (by first | with_reducible exact z1.out | with_reducible exact z1.out.al _) (by first | with_reducible exact z2.out | with_reducible exact z2.out.al _) (by omega) (by omega)).mono ?_; rintro e y3 ⟨zz, rfl, hz, g3⟩; obtain ⟨r3q, o3q, l3q, c3q, R3q, O3q, M3q, C3q, rfl, z3⟩ := hz.shape; clear hz; replace z3 : Hid (Rt y3 (.agg #[.bool r3q, .slice o3q l3q c3q, .bool R3q, .slice O3q M3q C3q]) (r * r) 1 4) := hid' (z3.out.to rfl (Int.one_mul 1)); have B3 : Hid (Below wq.heap.size wq y3) := hid' (Below.trans (by (repeat (first | with_reducible exact B4.out | with_reducible exact B3.out | with_reducible exact B2.out | with_reducible exact B1.out | with_reducible exact B0.out | with_reducible exact BW.out | (with_reducible refine bl_drew ?_) | (with_reducible refine bl_alloc ?_ _)))) (g3.mono (Below.size (by (repeat (first | with_reducible exact B4.out | with_reducible exact B3.out | with_reducible exact B2.out | with_reducible exact B1.out | with_reducible exact B0.out | with_reducible exact BW.out | (with_reducible refine bl_drew ?_) | (with_reducible refine bl_alloc ?_ _))))))); have s3 := B3.out.size; have hS3 : Hid (TC4 ⟨X13, 0, none⟩ ⟨X13, 1, none⟩ ⟨X13, 2, none⟩ ⟨X13, 3, none⟩ (.bool r13) (.slice o13 l13 c13) (.bool R13) (.slice O13 M13 C13) wq.heap.size wq y3) := ⟨below_cell hSW.out.1 B3.out, below_cell hSW.out.2.1 B3.out, below_cell hSW.out.2.2.1 B3.out, below_cell hSW.out.2.2.2.1 B3.out, B3.out⟩)
        | (have _n := z1; go_at_call 26; refine (KR.out _).mono ?_; rintro e y2 ⟨zz, rfl, hz, g2⟩; obtain ⟨r2q, o2q, l2q, c2q, R2q, O2q, M2q, C2q, rfl, z2⟩ := hz.shape; clear hz; have B2 : Hid (Below wq.heap.size wq y2) := hid' (Below.trans (by (repeat (first | with_reducible exact B4.out | with_reducible exact B3.out | with_reducible exact B2.out | with_reducible exact B1.out | with_reducible exact B0.out | with_reducible exact BW.out | (with_reducible refine bl_drew ?_) | (with_reducible refine bl_alloc ?_ _)))) (g2.mono (Below.size (by (repeat (first | with_reducible exact B4.out | with_reducible exact B3.out | with_reducible exact B2.out | with_reducible exact B1.out | with_reducible exact B0.out | with_reducible exact BW.out | (with_reducible refine bl_drew ?_) | (with_reducible refine bl_alloc ?_ _))))))); have s2 := B2.out.size; have hS2 : Hid (TC4 ⟨X13, 0, none⟩ ⟨X13, 1, none⟩ ⟨X13, 2, none⟩ ⟨X13, 3, none⟩ (.bool r13) (.slice o13 l13 c13) (.bool R13) (.slice O13 M13 C13) wq.heap.size wq y2) := ⟨below_cell hSW.out.1 B2.out, below_cell hSW.out.2.1 B2.out, below_cell hSW.out.2.2.1 B2.out, below_cell hSW.out.2.2.2.1 B2.out, B2.out⟩; have zn1 : Rt y2 (.agg #[.bool r1q, .slice o1q l1q c1q, .bool R1q, .slice O1q M1q C1q]) r 1 2 := Rt.mono (by first | with_reducible exact z1.out | with_reducible exact z1.out.al _) g2; replace z1 := hid' zn1; clear zn1)
        | (go_at_call 26; refine (KR.out _).mono ?_; rintro e y1 ⟨zz, rfl, hz, g1⟩; obtain ⟨r1q, o1q, l1q, c1q, R1q, O1q, M1q, C1q, rfl, z1⟩ := hz.shape; clear hz; have B1 : Hid (Below wq.heap.size wq y1) := hid' (Below.trans (by (repeat (first | with_reducible exact B4.out | with_reducible exact B3.out | with_reducible exact B2.out | with_reducible exact B1.out | with_reducible exact B0.out | with_reducible exact BW.out | (with_reducible refine bl_drew ?_) | (with_reducible refine bl_alloc ?_ _)))) (g1.mono (Below.size (by (repeat (first | with_reducible exact B4.out | with_reducible exact B3.out | with_reducible exact B2.out | with_reducible exact B1.out | with_reducible exact B0.out | with_reducible exact BW.out | (with_reducible refine bl_drew ?_) | (with_reducible refine bl_alloc ?_ _))))))); have s1 := B1.out.size; have hS1 : Hid (TC4 ⟨X13, 0, none⟩ ⟨X13, 1, none⟩ ⟨X13, 2, none⟩ ⟨X13, 3, none⟩ (.bool r13) (.slice o13 l13 c13) (.bool R13) (.slice O13 M13 C13) wq.heap.size wq y1) := ⟨below_cell hSW.out.1 B1.out, below_cell hSW.out.2.1 B1.out, below_cell hSW.out.2.2.1 B1.out, below_cell hSW.out.2.2.2.1 B1.out, B1.out⟩))
  all_goals
    go_wp2
    go_ret
    refine ⟨?_, FB.out _ B4.out⟩
    rw [E.out]
    exact congrArg (fun b => Ending.returned (Value.bool b)) (by first | exact cmp_le n (r * r * d) | (rw [Int.mul_one]; exact cmp_le n (r * r * d)))
set_option maxRecDepth 20000 in
set_option maxHeartbeats 4000000 in
theorem near_t5 {u0 u1 u2 u4 u5 u6 u7 u8 u9 u10 u13 u14 u15 u16 u17 u18 u19 u20 u21 u22 u23 u24 u25 u26 u27 u28 u29 u30 u31 u32 u33 u34 u35 u36 u37 u38 u39 u40 u41 u42 u43 u44 u45 u46 u47 u48 u49 u50 u51 u52 u53 u54 u55 u56 u57 u58 u59 u60 u61 u62 u63 u64 u65 u66 u67 : Value} (w wq : World) (B : Bool) (X11 X12 : Nat) (r x y d : Int) (hB : Below w.heap.size w wq) (V11 : VL wq X11 x d 26) (V12 : VL wq X12 y d 26) (KR : Hid (∀ W, Calls Try.prog 26 #[.int .i64 (r)] W fun e w' => ∃ z, e = .returned z ∧ Rt w' z r 1 2 ∧ Below W.heap.size W w')) (E : Hid (B = decide (x * x * (d * d) + y * y * (d * d) ≤ r * r * (d * d * (d * d))))) (Q : Exit → Act → World → Prop) (hQ : Q = bodyPost Try.prog Try.f14 (fun e w' => e = .returned (.bool B) ∧ Below w.heap.size w w')) (K : Act → World → Prop) (hK : ∀ a w, Code.wp Try.prog (codeTail 6 (codeOf Try.f14)) Q a w → K a w) :
    Code.wp Try.prog (codeHead 5 (codeOf Try.f14)) (Exit.then K Q) { tmps := #[u0, u1, u2, .int .i64 r, u4, u5, u6, u7, u8, u9, u10, .pointer (some ⟨X11, 0, none⟩), .pointer (some ⟨X12, 0, none⟩), u13, u14, u15, u16, u17, u18, u19, u20, u21, u22, u23, u24, u25, u26, u27, u28, u29, u30, u31, u32, u33, u34, u35, u36, u37, u38, u39, u40, u41, u42, u43, u44, u45, u46, u47, u48, u49, u50, u51, u52, u53, u54, u55, u56, u57, u58, u59, u60, u61, u62, u63, u64, u65, u66, u67], defers := [] } wq := by
  dsimp only [codeHead, codeTail, codeOf, Try.f14, Option.getD] at hK ⊢
  subst hQ
  obtain ⟨r11, o11, l11, c11, R11, O11, M11, C11, k11, z11x⟩ := V11
  replace z11x := hid' z11x
  obtain ⟨r12, o12, l12, c12, R12, O12, M12, C12, k12, z12x⟩ := V12
  replace z12x := hid' z12x
  have hL : wq.heap.size ≤ wq.heap.size := Nat.le_refl _
  have hlt : Hid (Addr.block ⟨X11, 0, none⟩ < wq.heap.size ∧ Addr.block ⟨X11, 1, none⟩ < wq.heap.size ∧ Addr.block ⟨X11, 2, none⟩ < wq.heap.size ∧ Addr.block ⟨X11, 3, none⟩ < wq.heap.size ∧ Addr.block ⟨X12, 0, none⟩ < wq.heap.size ∧ Addr.block ⟨X12, 1, none⟩ < wq.heap.size ∧ Addr.block ⟨X12, 2, none⟩ < wq.heap.size ∧ Addr.block ⟨X12, 3, none⟩ < wq.heap.size) := ⟨k11.lt, k11.lt, k11.lt, k11.lt, k12.lt, k12.lt, k12.lt, k12.lt⟩
  have BW : Hid (Below wq.heap.size wq wq) := Below.refl _ _
  have B0 : Hid (Below wq.heap.size wq wq.drew) := (Below.refl _ _).drew
  have hSW : Hid (TC8 ⟨X11, 0, none⟩ ⟨X11, 1, none⟩ ⟨X11, 2, none⟩ ⟨X11, 3, none⟩ ⟨X12, 0, none⟩ ⟨X12, 1, none⟩ ⟨X12, 2, none⟩ ⟨X12, 3, none⟩ (.bool r11) (.slice o11 l11 c11) (.bool R11) (.slice O11 M11 C11) (.bool r12) (.slice o12 l12 c12) (.bool R12) (.slice O12 M12 C12) wq.heap.size wq wq) := ⟨k11.c0, k11.c1, k11.c2, k11.c3, k12.c0, k12.c1, k12.c2, k12.c3, Below.refl _ _⟩
  have hS0 : Hid (TC8 ⟨X11, 0, none⟩ ⟨X11, 1, none⟩ ⟨X11, 2, none⟩ ⟨X11, 3, none⟩ ⟨X12, 0, none⟩ ⟨X12, 1, none⟩ ⟨X12, 2, none⟩ ⟨X12, 3, none⟩ (.bool r11) (.slice o11 l11 c11) (.bool R11) (.slice O11 M11 C11) (.bool r12) (.slice o12 l12 c12) (.bool R12) (.slice O12 M12 C12) wq.heap.size wq wq.drew) := TC8.dr hSW.out
  have FIN : Hid (∀ W' X, VL W' X (x * x * (d * d) + y * y * (d * d)) (d * d * (d * d)) 105 → Below wq.heap.size wq W' → Below w.heap.size w W' ∧ VL W' X (x * x * (d * d) + y * y * (d * d)) (d * d * (d * d)) 120) := fun W' X v g => ⟨hB.trans (g.mono hB.size), by obtain ⟨a1, a2, a3, a4, a5, a6, a7, a8, h1, h2⟩ := v; exact ⟨a1, a2, a3, a4, a5, a6, a7, a8, h1, h2.le (by omega)⟩⟩
  clear hB k11 k12
  go_region_held3 (TC8 ⟨X11, 0, none⟩ ⟨X11, 1, none⟩ ⟨X11, 2, none⟩ ⟨X11, 3, none⟩ ⟨X12, 0, none⟩ ⟨X12, 1, none⟩ ⟨X12, 2, none⟩ ⟨X12, 3, none⟩ (.bool r11) (.slice o11 l11 c11) (.bool R11) (.slice O11 M11 C11) (.bool r12) (.slice o12 l12 c12) (.bool R12) (.slice O12 M12 C12) wq.heap.size wq)
    (repeat (first | with_reducible exact hS3.out | with_reducible exact hS2.out | with_reducible exact hS1.out | with_reducible exact hS0.out | with_reducible exact hSW.out | (with_reducible refine TC8.set ?_ (by simp only []; omega) hlt.out _) | (with_reducible refine TC8.al ?_ hL _) | (with_reducible refine TC8.dr ?_)))
    (first
        | (have _n := z2; go_at_call 38; refine (radd_rt _ _ (x * x) (d * d) (y * y) (d * d) 52 52 _ (by first | with_reducible exact z1.out | with_reducible exact z1.out.al _) (by first | with_reducible exact z2.out | with_reducible exact z2.out.al _) (by omega)).mono ?_; rintro e y3 ⟨zz, rfl, hz, g3⟩; obtain ⟨r3q, o3q, l3q, c3q, R3q, O3q, M3q, C3q, rfl, z3⟩ := hz.shape; clear hz; have B3 : Hid (Below wq.heap.size wq y3) := hid' (Below.trans (by (repeat (first | with_reducible exact B3.out | with_reducible exact B2.out | with_reducible exact B1.out | with_reducible exact B0.out | with_reducible exact BW.out | (with_reducible refine bl_drew ?_) | (with_reducible refine bl_alloc ?_ _)))) (g3.mono (Below.size (by (repeat (first | with_reducible exact B3.out | with_reducible exact B2.out | with_reducible exact B1.out | with_reducible exact B0.out | with_reducible exact BW.out | (with_reducible refine bl_drew ?_) | (with_reducible refine bl_alloc ?_ _))))))); have s3 := B3.out.size; have hS3 : Hid (TC8 ⟨X11, 0, none⟩ ⟨X11, 1, none⟩ ⟨X11, 2, none⟩ ⟨X11, 3, none⟩ ⟨X12, 0, none⟩ ⟨X12, 1, none⟩ ⟨X12, 2, none⟩ ⟨X12, 3, none⟩ (.bool r11) (.slice o11 l11 c11) (.bool R11) (.slice O11 M11 C11) (.bool r12) (.slice o12 l12 c12) (.bool R12) (.slice O12 M12 C12) wq.heap.size wq y3) := ⟨below_cell hSW.out.1 B3.out, below_cell hSW.out.2.1 B3.out, below_cell hSW.out.2.2.1 B3.out, below_cell hSW.out.2.2.2.1 B3.out, below_cell hSW.out.2.2.2.2.1 B3.out, below_cell hSW.out.2.2.2.2.2.1 B3.out, below_cell hSW.out.2.2.2.2.2.2.1 B3.out, below_cell hSW.out.2.2.2.2.2.2.2.1 B3.out, B3.out⟩; first | (have m3 := m2.mono g3 m2.lt; have e3_0 := m3.c0; have e3_1 := m3.c1; have e3_2 := m3.c2; have e3_3 := m3.c3; have e3_f := m3.f) | (have m3 : Q4 y3 y2.heap.size (.bool false) (.slice none 0 0) (.bool false) (.slice none 0 0) := (by with_reducible exact Q4.nx g3); have e3_0 := m3.c0; have e3_1 := m3.c1; have e3_2 := m3.c2; have e3_3 := m3.c3; have e3_f := m3.f) | skip)
        | (have _n := z1; go_at_call 39; refine (rmul_rt _ _ y d y d 26 26 _ (z12x.out.mono (by (repeat (first | with_reducible exact B3.out | with_reducible exact B2.out | with_reducible exact B1.out | with_reducible exact B0.out | with_reducible exact BW.out | (with_reducible refine bl_drew ?_) | (with_reducible refine bl_alloc ?_ _))))) (z12x.out.mono (by (repeat (first | with_reducible exact B3.out | with_reducible exact B2.out | with_reducible exact B1.out | with_reducible exact B0.out | with_reducible exact BW.out | (with_reducible refine bl_drew ?_) | (with_reducible refine bl_alloc ?_ _))))) (by omega) (by omega)).mono ?_; rintro e y2 ⟨zz, rfl, hz, g2⟩; obtain ⟨r2q, o2q, l2q, c2q, R2q, O2q, M2q, C2q, rfl, z2⟩ := hz.shape; clear hz; have B2 : Hid (Below wq.heap.size wq y2) := hid' (Below.trans (by (repeat (first | with_reducible exact B3.out | with_reducible exact B2.out | with_reducible exact B1.out | with_reducible exact B0.out | with_reducible exact BW.out | (with_reducible refine bl_drew ?_) | (with_reducible refine bl_alloc ?_ _)))) (g2.mono (Below.size (by (repeat (first | with_reducible exact B3.out | with_reducible exact B2.out | with_reducible exact B1.out | with_reducible exact B0.out | with_reducible exact BW.out | (with_reducible refine bl_drew ?_) | (with_reducible refine bl_alloc ?_ _))))))); have s2 := B2.out.size; have hS2 : Hid (TC8 ⟨X11, 0, none⟩ ⟨X11, 1, none⟩ ⟨X11, 2, none⟩ ⟨X11, 3, none⟩ ⟨X12, 0, none⟩ ⟨X12, 1, none⟩ ⟨X12, 2, none⟩ ⟨X12, 3, none⟩ (.bool r11) (.slice o11 l11 c11) (.bool R11) (.slice O11 M11 C11) (.bool r12) (.slice o12 l12 c12) (.bool R12) (.slice O12 M12 C12) wq.heap.size wq y2) := ⟨below_cell hSW.out.1 B2.out, below_cell hSW.out.2.1 B2.out, below_cell hSW.out.2.2.1 B2.out, below_cell hSW.out.2.2.2.1 B2.out, below_cell hSW.out.2.2.2.2.1 B2.out, below_cell hSW.out.2.2.2.2.2.1 B2.out, below_cell hSW.out.2.2.2.2.2.2.1 B2.out, below_cell hSW.out.2.2.2.2.2.2.2.1 B2.out, B2.out⟩; have zn1 : Rt y2 (.agg #[.bool r1q, .slice o1q l1q c1q, .bool R1q, .slice O1q M1q C1q]) (x * x) (d * d) 52 := Rt.mono (by first | with_reducible exact z1.out | with_reducible exact z1.out.al _) g2; replace z1 := hid' zn1; clear zn1; first | (have m2 := m1.mono g2 m1.lt; have e2_0 := m2.c0; have e2_1 := m2.c1; have e2_2 := m2.c2; have e2_3 := m2.c3; have e2_f := m2.f) | (have m2 : Q4 y2 y1.heap.size (.bool false) (.slice none 0 0) (.bool false) (.slice none 0 0) := (by with_reducible exact Q4.nx g2); have e2_0 := m2.c0; have e2_1 := m2.c1; have e2_2 := m2.c2; have e2_3 := m2.c3; have e2_f := m2.f) | skip)
        | (go_at_call 39; refine (rmul_rt _ _ x d x d 26 26 _ (z11x.out.mono (by (repeat (first | with_reducible exact B3.out | with_reducible exact B2.out | with_reducible exact B1.out | with_reducible exact B0.out | with_reducible exact BW.out | (with_reducible refine bl_drew ?_) | (with_reducible refine bl_alloc ?_ _))))) (z11x.out.mono (by (repeat (first | with_reducible exact B3.out | with_reducible exact B2.out | with_reducible exact B1.out | with_reducible exact B0.out | with_reducible exact BW.out | (with_reducible refine bl_drew ?_) | (with_reducible refine bl_alloc ?_ _))))) (by omega) (by omega)).mono ?_; rintro e y1 ⟨zz, rfl, hz, g1⟩; obtain ⟨r1q, o1q, l1q, c1q, R1q, O1q, M1q, C1q, rfl, z1⟩ := hz.shape; clear hz; have B1 : Hid (Below wq.heap.size wq y1) := hid' (Below.trans (by (repeat (first | with_reducible exact B3.out | with_reducible exact B2.out | with_reducible exact B1.out | with_reducible exact B0.out | with_reducible exact BW.out | (with_reducible refine bl_drew ?_) | (with_reducible refine bl_alloc ?_ _)))) (g1.mono (Below.size (by (repeat (first | with_reducible exact B3.out | with_reducible exact B2.out | with_reducible exact B1.out | with_reducible exact B0.out | with_reducible exact BW.out | (with_reducible refine bl_drew ?_) | (with_reducible refine bl_alloc ?_ _))))))); have s1 := B1.out.size; have hS1 : Hid (TC8 ⟨X11, 0, none⟩ ⟨X11, 1, none⟩ ⟨X11, 2, none⟩ ⟨X11, 3, none⟩ ⟨X12, 0, none⟩ ⟨X12, 1, none⟩ ⟨X12, 2, none⟩ ⟨X12, 3, none⟩ (.bool r11) (.slice o11 l11 c11) (.bool R11) (.slice O11 M11 C11) (.bool r12) (.slice o12 l12 c12) (.bool R12) (.slice O12 M12 C12) wq.heap.size wq y1) := ⟨below_cell hSW.out.1 B1.out, below_cell hSW.out.2.1 B1.out, below_cell hSW.out.2.2.1 B1.out, below_cell hSW.out.2.2.2.1 B1.out, below_cell hSW.out.2.2.2.2.1 B1.out, below_cell hSW.out.2.2.2.2.2.1 B1.out, below_cell hSW.out.2.2.2.2.2.2.1 B1.out, below_cell hSW.out.2.2.2.2.2.2.2.1 B1.out, B1.out⟩; first | (have m1 : Q4 y1 wq.heap.size (.bool false) (.slice none 0 0) (.bool false) (.slice none 0 0) := (by with_reducible exact Q4.nw g1); have e1_0 := m1.c0; have e1_1 := m1.c1; have e1_2 := m1.c2; have e1_3 := m1.c3; have e1_f := m1.f) | skip))
  · have v := hid' (VL.new z3.out)
    have f := hid' (FIN.out _ _ v.out (bl_alloc B3.out _))
    go_upto_region 7 with fail
    exact near_t6 w _ B _ r _ _ f.out.1 f.out.2 KR E _ rfl _ (by assumption)
  · have v := hid' (VL.put m3 z3.out)
    have f := hid' (FIN.out _ _ v.out (four_set B3.out (by omega)))
    go_upto_region 7 with fail
    exact near_t6 w _ B _ r _ _ f.out.1 f.out.2 KR E _ rfl _ (by assumption)
  · have v := hid' (VL.put m3 z3.out)
    have f := hid' (FIN.out _ _ v.out (four_set B3.out (by omega)))
    go_upto_region 7 with fail
    exact near_t6 w _ B _ r _ _ f.out.1 f.out.2 KR E _ rfl _ (by assumption)
  · have v := hid' (VL.put m3 z3.out)
    have f := hid' (FIN.out _ _ v.out (four_set B3.out (by omega)))
    go_upto_region 7 with fail
    exact near_t6 w _ B _ r _ _ f.out.1 f.out.2 KR E _ rfl _ (by assumption)
set_option maxRecDepth 20000 in
set_option maxHeartbeats 4000000 in
theorem near_t4 {u0 u1 u2 u5 u6 u7 u8 u9 u12 u13 u14 u15 u16 u17 u18 u19 u20 u21 u22 u23 u24 u25 u26 u27 u28 u29 u30 u31 u32 u33 u34 u35 u36 u37 u38 u39 u40 u41 u42 u43 u44 u45 u46 u47 u48 u49 u50 u51 u52 u53 u54 u55 u56 u57 u58 u59 u60 u61 u62 u63 u64 u65 u66 u67 : Value} (w wq : World) (B : Bool) (P X10 : Nat) (px py d yi r : Int) (X11 : Nat) (x y : Int) (hB : Below w.heap.size w wq) (tp : TwoIs wq P px py) (VI : VL wq X10 yi d 23) (Kpy : Hid (∀ W, Calls Try.prog 26 #[.int .i64 (IntKind.i64.wrap py)] W fun e w' => ∃ z, e = .returned z ∧ Rt w' z py 1 2 ∧ Below W.heap.size W w')) (KR : Hid (∀ W, Calls Try.prog 26 #[.int .i64 (r)] W fun e w' => ∃ z, e = .returned z ∧ Rt w' z r 1 2 ∧ Below W.heap.size W w')) (V11 : VL wq X11 x d 26) (hy : Hid (py * d + -yi = y)) (E : Hid (B = decide (x * x * (d * d) + y * y * (d * d) ≤ r * r * (d * d * (d * d))))) (Q : Exit → Act → World → Prop) (hQ : Q = bodyPost Try.prog Try.f14 (fun e w' => e = .returned (.bool B) ∧ Below w.heap.size w w')) (K : Act → World → Prop) (hK : ∀ a w, Code.wp Try.prog (codeTail 5 (codeOf Try.f14)) Q a w → K a w) :
    Code.wp Try.prog (codeHead 4 (codeOf Try.f14)) (Exit.then K Q) { tmps := #[u0, u1, u2, .int .i64 r, .pointer (some ⟨P, 0, none⟩), u5, u6, u7, u8, u9, .pointer (some ⟨X10, 0, none⟩), .pointer (some ⟨X11, 0, none⟩), u12, u13, u14, u15, u16, u17, u18, u19, u20, u21, u22, u23, u24, u25, u26, u27, u28, u29, u30, u31, u32, u33, u34, u35, u36, u37, u38, u39, u40, u41, u42, u43, u44, u45, u46, u47, u48, u49, u50, u51, u52, u53, u54, u55, u56, u57, u58, u59, u60, u61, u62, u63, u64, u65, u66, u67], defers := [] } wq := by
  dsimp only [codeHead, codeTail, codeOf, Try.f14, Option.getD] at hK ⊢
  subst hQ
  obtain ⟨r5, o5, l5, c5, R5, O5, M5, C5, k5, z5⟩ := VI
  replace z5 := hid' z5
  have hL : wq.heap.size ≤ wq.heap.size := Nat.le_refl _
  have hlt : Hid (Addr.block ⟨P, 1, none⟩ < wq.heap.size ∧ Addr.block ⟨X10, 0, none⟩ < wq.heap.size ∧ Addr.block ⟨X10, 1, none⟩ < wq.heap.size ∧ Addr.block ⟨X10, 2, none⟩ < wq.heap.size ∧ Addr.block ⟨X10, 3, none⟩ < wq.heap.size) := ⟨tp.lt, k5.lt, k5.lt, k5.lt, k5.lt⟩
  have BW : Hid (Below wq.heap.size wq wq) := Below.refl _ _
  have B0 : Hid (Below wq.heap.size wq wq.drew) := (Below.refl _ _).drew
  have hSW : Hid (TC5 ⟨P, 1, none⟩ ⟨X10, 0, none⟩ ⟨X10, 1, none⟩ ⟨X10, 2, none⟩ ⟨X10, 3, none⟩ (.int .i32 py) (.bool r5) (.slice o5 l5 c5) (.bool R5) (.slice O5 M5 C5) wq.heap.size wq wq) := ⟨tp.c1, k5.c0, k5.c1, k5.c2, k5.c3, Below.refl _ _⟩
  have hS0 : Hid (TC5 ⟨P, 1, none⟩ ⟨X10, 0, none⟩ ⟨X10, 1, none⟩ ⟨X10, 2, none⟩ ⟨X10, 3, none⟩ (.int .i32 py) (.bool r5) (.slice o5 l5 c5) (.bool R5) (.slice O5 M5 C5) wq.heap.size wq wq.drew) := TC5.dr hSW.out
  have FIN : Hid (∀ W' X, VL W' X y d 26 → Below wq.heap.size wq W' → Below w.heap.size w W' ∧ TwoIs W' P px py ∧ VL W' X11 x d 26) := fun W' X _ g => ⟨hB.trans (g.mono hB.size), ⟨below_cell tp.c0 g, below_cell tp.c1 g⟩, V11.mono g⟩
  clear hB tp k5 V11
  go_region_held3 (TC5 ⟨P, 1, none⟩ ⟨X10, 0, none⟩ ⟨X10, 1, none⟩ ⟨X10, 2, none⟩ ⟨X10, 3, none⟩ (.int .i32 py) (.bool r5) (.slice o5 l5 c5) (.bool R5) (.slice O5 M5 C5) wq.heap.size wq)
    (repeat (first | with_reducible exact hS2.out | with_reducible exact hS1.out | with_reducible exact hS0.out | with_reducible exact hSW.out | (with_reducible refine TC5.set ?_ (by simp only []; omega) hlt.out _) | (with_reducible refine TC5.al ?_ hL _) | (with_reducible refine TC5.dr ?_)))
    (first
        | (have _n := z1; go_at_call 37; refine (rsub_rt _ _ py 1 yi d 2 23 _ (by first | with_reducible exact z1.out | with_reducible exact z1.out.al _) (z5.out.mono (by (repeat (first | with_reducible exact B2.out | with_reducible exact B1.out | with_reducible exact B0.out | with_reducible exact BW.out | (with_reducible refine bl_drew ?_) | (with_reducible refine bl_alloc ?_ _))))) (by omega)).mono ?_; rintro e y2 ⟨zz, rfl, hz, g2⟩; obtain ⟨r2q, o2q, l2q, c2q, R2q, O2q, M2q, C2q, rfl, z2⟩ := hz.shape; clear hz; replace z2 : Hid (Rt y2 (.agg #[.bool r2q, .slice o2q l2q c2q, .bool R2q, .slice O2q M2q C2q]) y d 26) := hid' (z2.out.to (by rw [Int.mul_one]; exact hy.out) (Int.one_mul d)); have B2 : Hid (Below wq.heap.size wq y2) := hid' (Below.trans (by (repeat (first | with_reducible exact B2.out | with_reducible exact B1.out | with_reducible exact B0.out | with_reducible exact BW.out | (with_reducible refine bl_drew ?_) | (with_reducible refine bl_alloc ?_ _)))) (g2.mono (Below.size (by (repeat (first | with_reducible exact B2.out | with_reducible exact B1.out | with_reducible exact B0.out | with_reducible exact BW.out | (with_reducible refine bl_drew ?_) | (with_reducible refine bl_alloc ?_ _))))))); have s2 := B2.out.size; have hS2 : Hid (TC5 ⟨P, 1, none⟩ ⟨X10, 0, none⟩ ⟨X10, 1, none⟩ ⟨X10, 2, none⟩ ⟨X10, 3, none⟩ (.int .i32 py) (.bool r5) (.slice o5 l5 c5) (.bool R5) (.slice O5 M5 C5) wq.heap.size wq y2) := ⟨below_cell hSW.out.1 B2.out, below_cell hSW.out.2.1 B2.out, below_cell hSW.out.2.2.1 B2.out, below_cell hSW.out.2.2.2.1 B2.out, below_cell hSW.out.2.2.2.2.1 B2.out, B2.out⟩; first | (have m2 := m1.mono g2 m1.lt; have e2_0 := m2.c0; have e2_1 := m2.c1; have e2_2 := m2.c2; have e2_3 := m2.c3; have e2_f := m2.f) | (have m2 : Q4 y2 y1.heap.size (.bool false) (.slice none 0 0) (.bool false) (.slice none 0 0) := (by with_reducible exact Q4.nx g2); have e2_0 := m2.c0; have e2_1 := m2.c1; have e2_2 := m2.c2; have e2_3 := m2.c3; have e2_f := m2.f) | skip)
        | (go_at_call 26; refine (Kpy.out _).mono ?_; rintro e y1 ⟨zz, rfl, hz, g1⟩; obtain ⟨r1q, o1q, l1q, c1q, R1q, O1q, M1q, C1q, rfl, z1⟩ := hz.shape; clear hz; have B1 : Hid (Below wq.heap.size wq y1) := hid' (Below.trans (by (repeat (first | with_reducible exact B2.out | with_reducible exact B1.out | with_reducible exact B0.out | with_reducible exact BW.out | (with_reducible refine bl_drew ?_) | (with_reducible refine bl_alloc ?_ _)))) (g1.mono (Below.size (by (repeat (first | with_reducible exact B2.out | with_reducible exact B1.out | with_reducible exact B0.out | with_reducible exact BW.out | (with_reducible refine bl_drew ?_) | (with_reducible refine bl_alloc ?_ _))))))); have s1 := B1.out.size; have hS1 : Hid (TC5 ⟨P, 1, none⟩ ⟨X10, 0, none⟩ ⟨X10, 1, none⟩ ⟨X10, 2, none⟩ ⟨X10, 3, none⟩ (.int .i32 py) (.bool r5) (.slice o5 l5 c5) (.bool R5) (.slice O5 M5 C5) wq.heap.size wq y1) := ⟨below_cell hSW.out.1 B1.out, below_cell hSW.out.2.1 B1.out, below_cell hSW.out.2.2.1 B1.out, below_cell hSW.out.2.2.2.1 B1.out, below_cell hSW.out.2.2.2.2.1 B1.out, B1.out⟩; first | (have m1 : Q4 y1 wq.heap.size (.bool false) (.slice none 0 0) (.bool false) (.slice none 0 0) := (by with_reducible exact Q4.nw g1); have e1_0 := m1.c0; have e1_1 := m1.c1; have e1_2 := m1.c2; have e1_3 := m1.c3; have e1_f := m1.f) | skip))
  · have v := hid' (VL.new z2.out)
    have f := hid' (FIN.out _ _ v.out (bl_alloc B2.out _))
    go_upto_region 6 with fail
    exact near_t5 w _ B X11 _ r x y d f.out.1 f.out.2.2 v.out KR E _ rfl _ (by assumption)
  · have v := hid' (VL.put m2 z2.out)
    have f := hid' (FIN.out _ _ v.out (four_set B2.out (by omega)))
    go_upto_region 6 with fail
    exact near_t5 w _ B X11 _ r x y d f.out.1 f.out.2.2 v.out KR E _ rfl _ (by assumption)
  · have v := hid' (VL.put m2 z2.out)
    have f := hid' (FIN.out _ _ v.out (four_set B2.out (by omega)))
    go_upto_region 6 with fail
    exact near_t5 w _ B X11 _ r x y d f.out.1 f.out.2.2 v.out KR E _ rfl _ (by assumption)
set_option maxRecDepth 20000 in
set_option maxHeartbeats 4000000 in
theorem near_t3 {u0 u1 u2 u5 u6 u7 u8 u11 u12 u13 u14 u15 u16 u17 u18 u19 u20 u21 u22 u23 u24 u25 u26 u27 u28 u29 u30 u31 u32 u33 u34 u35 u36 u37 u38 u39 u40 u41 u42 u43 u44 u45 u46 u47 u48 u49 u50 u51 u52 u53 u54 u55 u56 u57 u58 u59 u60 u61 u62 u63 u64 u65 u66 u67 : Value} (w wq : World) (B : Bool) (P X9 : Nat) (px py d xi r : Int) (X10 : Nat) (yi x y : Int) (hB : Below w.heap.size w wq) (tp : TwoIs wq P px py) (VI : VL wq X9 xi d 23) (Kpx : Hid (∀ W, Calls Try.prog 26 #[.int .i64 (IntKind.i64.wrap px)] W fun e w' => ∃ z, e = .returned z ∧ Rt w' z px 1 2 ∧ Below W.heap.size W w')) (KR : Hid (∀ W, Calls Try.prog 26 #[.int .i64 (r)] W fun e w' => ∃ z, e = .returned z ∧ Rt w' z r 1 2 ∧ Below W.heap.size W w')) (V10 : VL wq X10 yi d 23) (hx : Hid (px * d + -xi = x)) (hy : Hid (py * d + -yi = y)) (Kpy : Hid (∀ W, Calls Try.prog 26 #[.int .i64 (IntKind.i64.wrap py)] W fun e w' => ∃ z, e = .returned z ∧ Rt w' z py 1 2 ∧ Below W.heap.size W w')) (E : Hid (B = decide (x * x * (d * d) + y * y * (d * d) ≤ r * r * (d * d * (d * d))))) (Q : Exit → Act → World → Prop) (hQ : Q = bodyPost Try.prog Try.f14 (fun e w' => e = .returned (.bool B) ∧ Below w.heap.size w w')) (K : Act → World → Prop) (hK : ∀ a w, Code.wp Try.prog (codeTail 4 (codeOf Try.f14)) Q a w → K a w) :
    Code.wp Try.prog (codeHead 3 (codeOf Try.f14)) (Exit.then K Q) { tmps := #[u0, u1, u2, .int .i64 r, .pointer (some ⟨P, 0, none⟩), u5, u6, u7, u8, .pointer (some ⟨X9, 0, none⟩), .pointer (some ⟨X10, 0, none⟩), u11, u12, u13, u14, u15, u16, u17, u18, u19, u20, u21, u22, u23, u24, u25, u26, u27, u28, u29, u30, u31, u32, u33, u34, u35, u36, u37, u38, u39, u40, u41, u42, u43, u44, u45, u46, u47, u48, u49, u50, u51, u52, u53, u54, u55, u56, u57, u58, u59, u60, u61, u62, u63, u64, u65, u66, u67], defers := [] } wq := by
  dsimp only [codeHead, codeTail, codeOf, Try.f14, Option.getD] at hK ⊢
  subst hQ
  obtain ⟨r5, o5, l5, c5, R5, O5, M5, C5, k5, z5⟩ := VI
  replace z5 := hid' z5
  have hL : wq.heap.size ≤ wq.heap.size := Nat.le_refl _
  have hlt : Hid (Addr.block ⟨P, 0, none⟩ < wq.heap.size ∧ Addr.block ⟨X9, 0, none⟩ < wq.heap.size ∧ Addr.block ⟨X9, 1, none⟩ < wq.heap.size ∧ Addr.block ⟨X9, 2, none⟩ < wq.heap.size ∧ Addr.block ⟨X9, 3, none⟩ < wq.heap.size) := ⟨tp.lt, k5.lt, k5.lt, k5.lt, k5.lt⟩
  have BW : Hid (Below wq.heap.size wq wq) := Below.refl _ _
  have B0 : Hid (Below wq.heap.size wq wq.drew) := (Below.refl _ _).drew
  have hSW : Hid (TC5 ⟨P, 0, none⟩ ⟨X9, 0, none⟩ ⟨X9, 1, none⟩ ⟨X9, 2, none⟩ ⟨X9, 3, none⟩ (.int .i32 px) (.bool r5) (.slice o5 l5 c5) (.bool R5) (.slice O5 M5 C5) wq.heap.size wq wq) := ⟨tp.c0, k5.c0, k5.c1, k5.c2, k5.c3, Below.refl _ _⟩
  have hS0 : Hid (TC5 ⟨P, 0, none⟩ ⟨X9, 0, none⟩ ⟨X9, 1, none⟩ ⟨X9, 2, none⟩ ⟨X9, 3, none⟩ (.int .i32 px) (.bool r5) (.slice o5 l5 c5) (.bool R5) (.slice O5 M5 C5) wq.heap.size wq wq.drew) := TC5.dr hSW.out
  have FIN : Hid (∀ W' X, VL W' X x d 26 → Below wq.heap.size wq W' → Below w.heap.size w W' ∧ TwoIs W' P px py ∧ VL W' X10 yi d 23) := fun W' X _ g => ⟨hB.trans (g.mono hB.size), ⟨below_cell tp.c0 g, below_cell tp.c1 g⟩, V10.mono g⟩
  clear hB tp k5 V10
  go_region_held3 (TC5 ⟨P, 0, none⟩ ⟨X9, 0, none⟩ ⟨X9, 1, none⟩ ⟨X9, 2, none⟩ ⟨X9, 3, none⟩ (.int .i32 px) (.bool r5) (.slice o5 l5 c5) (.bool R5) (.slice O5 M5 C5) wq.heap.size wq)
    (repeat (first | with_reducible exact hS2.out | with_reducible exact hS1.out | with_reducible exact hS0.out | with_reducible exact hSW.out | (with_reducible refine TC5.set ?_ (by simp only []; omega) hlt.out _) | (with_reducible refine TC5.al ?_ hL _) | (with_reducible refine TC5.dr ?_)))
    (first
        | (have _n := z1; go_at_call 37; refine (rsub_rt _ _ px 1 xi d 2 23 _ (by first | with_reducible exact z1.out | with_reducible exact z1.out.al _) (z5.out.mono (by (repeat (first | with_reducible exact B2.out | with_reducible exact B1.out | with_reducible exact B0.out | with_reducible exact BW.out | (with_reducible refine bl_drew ?_) | (with_reducible refine bl_alloc ?_ _))))) (by omega)).mono ?_; rintro e y2 ⟨zz, rfl, hz, g2⟩; obtain ⟨r2q, o2q, l2q, c2q, R2q, O2q, M2q, C2q, rfl, z2⟩ := hz.shape; clear hz; replace z2 : Hid (Rt y2 (.agg #[.bool r2q, .slice o2q l2q c2q, .bool R2q, .slice O2q M2q C2q]) x d 26) := hid' (z2.out.to (by rw [Int.mul_one]; exact hx.out) (Int.one_mul d)); have B2 : Hid (Below wq.heap.size wq y2) := hid' (Below.trans (by (repeat (first | with_reducible exact B2.out | with_reducible exact B1.out | with_reducible exact B0.out | with_reducible exact BW.out | (with_reducible refine bl_drew ?_) | (with_reducible refine bl_alloc ?_ _)))) (g2.mono (Below.size (by (repeat (first | with_reducible exact B2.out | with_reducible exact B1.out | with_reducible exact B0.out | with_reducible exact BW.out | (with_reducible refine bl_drew ?_) | (with_reducible refine bl_alloc ?_ _))))))); have s2 := B2.out.size; have hS2 : Hid (TC5 ⟨P, 0, none⟩ ⟨X9, 0, none⟩ ⟨X9, 1, none⟩ ⟨X9, 2, none⟩ ⟨X9, 3, none⟩ (.int .i32 px) (.bool r5) (.slice o5 l5 c5) (.bool R5) (.slice O5 M5 C5) wq.heap.size wq y2) := ⟨below_cell hSW.out.1 B2.out, below_cell hSW.out.2.1 B2.out, below_cell hSW.out.2.2.1 B2.out, below_cell hSW.out.2.2.2.1 B2.out, below_cell hSW.out.2.2.2.2.1 B2.out, B2.out⟩; first | (have m2 := m1.mono g2 m1.lt; have e2_0 := m2.c0; have e2_1 := m2.c1; have e2_2 := m2.c2; have e2_3 := m2.c3; have e2_f := m2.f) | (have m2 : Q4 y2 y1.heap.size (.bool false) (.slice none 0 0) (.bool false) (.slice none 0 0) := (by with_reducible exact Q4.nx g2); have e2_0 := m2.c0; have e2_1 := m2.c1; have e2_2 := m2.c2; have e2_3 := m2.c3; have e2_f := m2.f) | skip)
        | (go_at_call 26; refine (Kpx.out _).mono ?_; rintro e y1 ⟨zz, rfl, hz, g1⟩; obtain ⟨r1q, o1q, l1q, c1q, R1q, O1q, M1q, C1q, rfl, z1⟩ := hz.shape; clear hz; have B1 : Hid (Below wq.heap.size wq y1) := hid' (Below.trans (by (repeat (first | with_reducible exact B2.out | with_reducible exact B1.out | with_reducible exact B0.out | with_reducible exact BW.out | (with_reducible refine bl_drew ?_) | (with_reducible refine bl_alloc ?_ _)))) (g1.mono (Below.size (by (repeat (first | with_reducible exact B2.out | with_reducible exact B1.out | with_reducible exact B0.out | with_reducible exact BW.out | (with_reducible refine bl_drew ?_) | (with_reducible refine bl_alloc ?_ _))))))); have s1 := B1.out.size; have hS1 : Hid (TC5 ⟨P, 0, none⟩ ⟨X9, 0, none⟩ ⟨X9, 1, none⟩ ⟨X9, 2, none⟩ ⟨X9, 3, none⟩ (.int .i32 px) (.bool r5) (.slice o5 l5 c5) (.bool R5) (.slice O5 M5 C5) wq.heap.size wq y1) := ⟨below_cell hSW.out.1 B1.out, below_cell hSW.out.2.1 B1.out, below_cell hSW.out.2.2.1 B1.out, below_cell hSW.out.2.2.2.1 B1.out, below_cell hSW.out.2.2.2.2.1 B1.out, B1.out⟩; first | (have m1 : Q4 y1 wq.heap.size (.bool false) (.slice none 0 0) (.bool false) (.slice none 0 0) := (by with_reducible exact Q4.nw g1); have e1_0 := m1.c0; have e1_1 := m1.c1; have e1_2 := m1.c2; have e1_3 := m1.c3; have e1_f := m1.f) | skip))
  · have v := hid' (VL.new z2.out)
    have f := hid' (FIN.out _ _ v.out (bl_alloc B2.out _))
    go_upto_region 5 with fail
    exact near_t4 w _ B P X10 px py d yi r _ x y f.out.1 f.out.2.1 f.out.2.2 Kpy KR v.out hy E _ rfl _ (by assumption)
  · have v := hid' (VL.put m2 z2.out)
    have f := hid' (FIN.out _ _ v.out (four_set B2.out (by omega)))
    go_upto_region 5 with fail
    exact near_t4 w _ B P X10 px py d yi r _ x y f.out.1 f.out.2.1 f.out.2.2 Kpy KR v.out hy E _ rfl _ (by assumption)
  · have v := hid' (VL.put m2 z2.out)
    have f := hid' (FIN.out _ _ v.out (four_set B2.out (by omega)))
    go_upto_region 5 with fail
    exact near_t4 w _ B P X10 px py d yi r _ x y f.out.1 f.out.2.1 f.out.2.2 Kpy KR v.out hy E _ rfl _ (by assumption)
end
section
open Go.RowKit Go.Sort

theorem VL.al {w : World} {b : Nat} {n d : Int} {L : Nat} (h : VL w b n d L) (o : Obj) : VL (w.alloc o) b n d L := h.mono ((Gr.refl _).alloc _).below
theorem finA {W cur : World} {r3 : Bool} {o3 : Option Addr} {l3 c3 : Nat} {R3 : Bool} {O3 : Option Addr} {M3 C3 : Nat} {r4 : Bool} {o4 : Option Addr} {l4 c4 : Nat} {R4 : Bool} {O4 : Option Addr} {M4 C4 : Nat} {q l d : Int} {L : Nat} (hq : Rt cur (.agg #[.bool r3, .slice o3 l3 c3, .bool R3, .slice O3 M3 C3]) q d L) (hl : Rt cur (.agg #[.bool r4, .slice o4 l4 c4, .bool R4, .slice O4 M4 C4]) l d L) (hb : Below W.heap.size W cur) : VL ((cur.alloc (.cells #[.bool r3, .slice o3 l3 c3, .bool R3, .slice O3 M3 C3] 53)).alloc (.cells #[.bool r4, .slice o4 l4 c4, .bool R4, .slice O4 M4 C4] 53)) cur.heap.size q d L ∧ VL ((cur.alloc (.cells #[.bool r3, .slice o3 l3 c3, .bool R3, .slice O3 M3 C3] 53)).alloc (.cells #[.bool r4, .slice o4 l4 c4, .bool R4, .slice O4 M4 C4] 53)) (cur.heap.size + 1) l d L ∧ Below W.heap.size W ((cur.alloc (.cells #[.bool r3, .slice o3 l3 c3, .bool R3, .slice O3 M3 C3] 53)).alloc (.cells #[.bool r4, .slice o4 l4 c4, .bool R4, .slice O4 M4 C4] 53)) := by
  refine ⟨(VL.new hq).al _, ?_, bl_alloc (bl_alloc hb _) _⟩
  have h := VL.new (hl.al (.cells #[.bool r3, .slice o3 l3 c3, .bool R3, .slice O3 M3 C3] 53))
  rw [World.size_alloc] at h
  exact h
theorem finB {W cur : World} {X : Nat} {x0 x1 x2 x3 : Value} {r3 : Bool} {o3 : Option Addr} {l3 c3 : Nat} {R3 : Bool} {O3 : Option Addr} {M3 C3 : Nat} {r4 : Bool} {o4 : Option Addr} {l4 c4 : Nat} {R4 : Bool} {O4 : Option Addr} {M4 C4 : Nat} {q l d : Int} {L : Nat} (k : Q4 cur X x0 x1 x2 x3) (hq : Rt cur (.agg #[.bool r3, .slice o3 l3 c3, .bool R3, .slice O3 M3 C3]) q d L) (hl : Rt cur (.agg #[.bool r4, .slice o4 l4 c4, .bool R4, .slice O4 M4 C4]) l d L) (hb : Below W.heap.size W cur) (hX : W.heap.size ≤ X) : VL ((((((cur).setCell ⟨X, 0, none⟩ (.bool r3)).setCell ⟨X, 1, none⟩ (.slice o3 l3 c3)).setCell ⟨X, 2, none⟩ (.bool R3)).setCell ⟨X, 3, none⟩ (.slice O3 M3 C3)).alloc (.cells #[.bool r4, .slice o4 l4 c4, .bool R4, .slice O4 M4 C4] 53)) X q d L ∧ VL ((((((cur).setCell ⟨X, 0, none⟩ (.bool r3)).setCell ⟨X, 1, none⟩ (.slice o3 l3 c3)).setCell ⟨X, 2, none⟩ (.bool R3)).setCell ⟨X, 3, none⟩ (.slice O3 M3 C3)).alloc (.cells #[.bool r4, .slice o4 l4 c4, .bool R4, .slice O4 M4 C4] 53)) cur.heap.size l d L ∧ Below W.heap.size W ((((((cur).setCell ⟨X, 0, none⟩ (.bool r3)).setCell ⟨X, 1, none⟩ (.slice o3 l3 c3)).setCell ⟨X, 2, none⟩ (.bool R3)).setCell ⟨X, 3, none⟩ (.slice O3 M3 C3)).alloc (.cells #[.bool r4, .slice o4 l4 c4, .bool R4, .slice O4 M4 C4] 53)) := by
  refine ⟨(VL.put k hq).al _, ?_, bl_alloc (four_set hb hX) _⟩
  have h := VL.new (hl.setQ k (.bool r3) (.slice o3 l3 c3) (.bool R3) (.slice O3 M3 C3))
  simpa using h
theorem finC {W cur : World} {X4 X5 : Nat} {x0 x1 x2 x3 y0 y1 y2 y3 : Value} {r3 : Bool} {o3 : Option Addr} {l3 c3 : Nat} {R3 : Bool} {O3 : Option Addr} {M3 C3 : Nat} {r4 : Bool} {o4 : Option Addr} {l4 c4 : Nat} {R4 : Bool} {O4 : Option Addr} {M4 C4 : Nat} {q l d : Int} {L : Nat} (k4 : Q4 cur X4 x0 x1 x2 x3) (k5 : Q4 cur X5 y0 y1 y2 y3) (hne : X4 ≠ X5) (hq : Rt cur (.agg #[.bool r3, .slice o3 l3 c3, .bool R3, .slice O3 M3 C3]) q d L) (hl : Rt cur (.agg #[.bool r4, .slice o4 l4 c4, .bool R4, .slice O4 M4 C4]) l d L) (hb : Below W.heap.size W cur) (h4 : W.heap.size ≤ X4) (h5 : W.heap.size ≤ X5) : VL ((((((((((cur).setCell ⟨X4, 0, none⟩ (.bool r3)).setCell ⟨X4, 1, none⟩ (.slice o3 l3 c3)).setCell ⟨X4, 2, none⟩ (.bool R3)).setCell ⟨X4, 3, none⟩ (.slice O3 M3 C3))).setCell ⟨X5, 0, none⟩ (.bool r4)).setCell ⟨X5, 1, none⟩ (.slice o4 l4 c4)).setCell ⟨X5, 2, none⟩ (.bool R4)).setCell ⟨X5, 3, none⟩ (.slice O4 M4 C4)) X4 q d L ∧ VL ((((((((((cur).setCell ⟨X4, 0, none⟩ (.bool r3)).setCell ⟨X4, 1, none⟩ (.slice o3 l3 c3)).setCell ⟨X4, 2, none⟩ (.bool R3)).setCell ⟨X4, 3, none⟩ (.slice O3 M3 C3))).setCell ⟨X5, 0, none⟩ (.bool r4)).setCell ⟨X5, 1, none⟩ (.slice o4 l4 c4)).setCell ⟨X5, 2, none⟩ (.bool R4)).setCell ⟨X5, 3, none⟩ (.slice O4 M4 C4)) X5 l d L ∧ Below W.heap.size W ((((((((((cur).setCell ⟨X4, 0, none⟩ (.bool r3)).setCell ⟨X4, 1, none⟩ (.slice o3 l3 c3)).setCell ⟨X4, 2, none⟩ (.bool R3)).setCell ⟨X4, 3, none⟩ (.slice O3 M3 C3))).setCell ⟨X5, 0, none⟩ (.bool r4)).setCell ⟨X5, 1, none⟩ (.slice o4 l4 c4)).setCell ⟨X5, 2, none⟩ (.bool R4)).setCell ⟨X5, 3, none⟩ (.slice O4 M4 C4)) := by
  have k5' := (((k5.other (p := ⟨X4, 0, none⟩) (Ne.symm hne) (.bool r3)).other (p := ⟨X4, 1, none⟩) (Ne.symm hne) (.slice o3 l3 c3)).other (p := ⟨X4, 2, none⟩) (Ne.symm hne) (.bool R3)).other (p := ⟨X4, 3, none⟩) (Ne.symm hne) (.slice O3 M3 C3)
  have k4' := (((k4.s0 (.bool r3)).s1 (.slice o3 l3 c3)).s2 (.bool R3)).s3 (.slice O3 M3 C3)
  refine ⟨⟨_, _, _, _, _, _, _, _, (((k4'.other (p := ⟨X5, 0, none⟩) hne _).other (p := ⟨X5, 1, none⟩) hne _).other (p := ⟨X5, 2, none⟩) hne _).other (p := ⟨X5, 3, none⟩) hne _, (hq.setQ k4 _ _ _ _).setQ k5' _ _ _ _⟩, VL.put k5' (hl.setQ k4 _ _ _ _), four_set (four_set hb h4) h5⟩
theorem turn3 {a b c : Prop} (h : b ∧ a ∧ c) : a ∧ b ∧ c := ⟨h.2.1, h.1, h.2.2⟩
theorem Q4.alx {w y : World} {b : Nat} {x0 x1 x2 x3 : Value} {o : Obj} (h : Q4 w b x0 x1 x2 x3) (g : Below (w.alloc o).heap.size (w.alloc o) y) : Q4 y b x0 x1 x2 x3 :=
  have k := h.gr ((Gr.refl w).alloc o)
  k.mono g k.lt
theorem Q4.nx2a {w y : World} (g : Below ((w.alloc (.cells #[.bool false, .slice none 0 0, .bool false, .slice none 0 0] 53)).alloc (.cells #[.bool false, .slice none 0 0, .bool false, .slice none 0 0] 53)).heap.size ((w.alloc (.cells #[.bool false, .slice none 0 0, .bool false, .slice none 0 0] 53)).alloc (.cells #[.bool false, .slice none 0 0, .bool false, .slice none 0 0] 53)) y) : Q4 y w.heap.size (.bool false) (.slice none 0 0) (.bool false) (.slice none 0 0) := Q4.alx (Q4.new w (.bool false) (.slice none 0 0) (.bool false) (.slice none 0 0)) g
theorem Q4.nx2b {w y : World} (g : Below ((w.alloc (.cells #[.bool false, .slice none 0 0, .bool false, .slice none 0 0] 53)).alloc (.cells #[.bool false, .slice none 0 0, .bool false, .slice none 0 0] 53)).heap.size ((w.alloc (.cells #[.bool false, .slice none 0 0, .bool false, .slice none 0 0] 53)).alloc (.cells #[.bool false, .slice none 0 0, .bool false, .slice none 0 0] 53)) y) : Q4 y (w.heap.size + 1) (.bool false) (.slice none 0 0) (.bool false) (.slice none 0 0) := by
  have h := Q4.nx g
  rw [World.size_alloc] at h
  exact h
theorem Q4.nw2a {w y : World} (g : Below (((w.alloc (.cells #[.bool false, .slice none 0 0, .bool false, .slice none 0 0] 53)).alloc (.cells #[.bool false, .slice none 0 0, .bool false, .slice none 0 0] 53)).drew).heap.size (((w.alloc (.cells #[.bool false, .slice none 0 0, .bool false, .slice none 0 0] 53)).alloc (.cells #[.bool false, .slice none 0 0, .bool false, .slice none 0 0] 53)).drew) y) : Q4 y w.heap.size (.bool false) (.slice none 0 0) (.bool false) (.slice none 0 0) :=
  have h : Q4 ((w.alloc (.cells #[.bool false, .slice none 0 0, .bool false, .slice none 0 0] 53)).alloc (.cells #[.bool false, .slice none 0 0, .bool false, .slice none 0 0] 53)).drew w.heap.size (.bool false) (.slice none 0 0) (.bool false) (.slice none 0 0) := (show Q4 ((w.alloc (.cells #[.bool false, .slice none 0 0, .bool false, .slice none 0 0] 53)).alloc (.cells #[.bool false, .slice none 0 0, .bool false, .slice none 0 0] 53)) w.heap.size (.bool false) (.slice none 0 0) (.bool false) (.slice none 0 0) from (Q4.new w (.bool false) (.slice none 0 0) (.bool false) (.slice none 0 0)).gr ((Gr.refl _).alloc (.cells #[.bool false, .slice none 0 0, .bool false, .slice none 0 0] 53)))
  h.mono g h.lt
theorem Q4.nw2b {w y : World} (g : Below (((w.alloc (.cells #[.bool false, .slice none 0 0, .bool false, .slice none 0 0] 53)).alloc (.cells #[.bool false, .slice none 0 0, .bool false, .slice none 0 0] 53)).drew).heap.size (((w.alloc (.cells #[.bool false, .slice none 0 0, .bool false, .slice none 0 0] 53)).alloc (.cells #[.bool false, .slice none 0 0, .bool false, .slice none 0 0] 53)).drew) y) : Q4 y (w.heap.size + 1) (.bool false) (.slice none 0 0) (.bool false) (.slice none 0 0) := by
  have h := Q4.nw g
  rw [World.size_alloc] at h
  exact h
theorem Rt.al2 {w : World} {x : Value} {n d : Int} {L : Nat} (h : Rt w x n d L) (o o' : Obj) : Rt ((w.alloc o).alloc o') x n d L := (h.al o).al o'
theorem near_t3x {u0 u1 u2 u5 u6 u7 u8 u11 u12 u13 u14 u15 u16 u17 u18 u19 u20 u21 u22 u23 u24 u25 u26 u27 u28 u29 u30 u31 u32 u33 u34 u35 u36 u37 u38 u39 u40 u41 u42 u43 u44 u45 u46 u47 u48 u49 u50 u51 u52 u53 u54 u55 u56 u57 u58 u59 u60 u61 u62 u63 u64 u65 u66 u67 : Value} (w wq : World) (B : Bool) (wr : World) (P X9 X10 : Nat) (px py d xi yi r x y : Int) (FIN : Hid (∀ W', Below wr.heap.size wr W' → Below w.heap.size w W' ∧ TwoIs W' P px py)) (V : VL wq X9 xi d 23 ∧ VL wq X10 yi d 23 ∧ Below wr.heap.size wr wq) (Kpx : Hid (∀ W, Calls Try.prog 26 #[.int .i64 (IntKind.i64.wrap px)] W fun e w' => ∃ z, e = .returned z ∧ Rt w' z px 1 2 ∧ Below W.heap.size W w')) (Kpy : Hid (∀ W, Calls Try.prog 26 #[.int .i64 (IntKind.i64.wrap py)] W fun e w' => ∃ z, e = .returned z ∧ Rt w' z py 1 2 ∧ Below W.heap.size W w')) (KR : Hid (∀ W, Calls Try.prog 26 #[.int .i64 (r)] W fun e w' => ∃ z, e = .returned z ∧ Rt w' z r 1 2 ∧ Below W.heap.size W w')) (hx : Hid (px * d + -xi = x)) (hy : Hid (py * d + -yi = y)) (E : Hid (B = decide (x * x * (d * d) + y * y * (d * d) ≤ r * r * (d * d * (d * d))))) (Q : Exit → Act → World → Prop) (hQ : Q = bodyPost Try.prog Try.f14 (fun e w' => e = .returned (.bool B) ∧ Below w.heap.size w w')) (K : Act → World → Prop) (hK : ∀ a w, Code.wp Try.prog (codeTail 4 (codeOf Try.f14)) Q a w → K a w) :
    Code.wp Try.prog (codeHead 3 (codeOf Try.f14)) (Exit.then K Q) { tmps := #[u0, u1, u2, .int .i64 r, .pointer (some ⟨P, 0, none⟩), u5, u6, u7, u8, .pointer (some ⟨X9, 0, none⟩), .pointer (some ⟨X10, 0, none⟩), u11, u12, u13, u14, u15, u16, u17, u18, u19, u20, u21, u22, u23, u24, u25, u26, u27, u28, u29, u30, u31, u32, u33, u34, u35, u36, u37, u38, u39, u40, u41, u42, u43, u44, u45, u46, u47, u48, u49, u50, u51, u52, u53, u54, u55, u56, u57, u58, u59, u60, u61, u62, u63, u64, u65, u66, u67], defers := [] } wq :=
  near_t3 w wq B P X9 px py d xi r X10 yi x y (FIN.out _ V.2.2).1 (FIN.out _ V.2.2).2 V.1 Kpx KR V.2.1 hx hy Kpy E Q hQ K hK
set_option maxRecDepth 20000 in
set_option maxHeartbeats 4000000 in
theorem near_t2 {u0 u1 u2 u7 u8 u9 u10 u11 u12 u13 u14 u15 u16 u17 u18 u19 u20 u21 u22 u23 u24 u25 u26 u27 u28 u29 u30 u31 u32 u33 u34 u35 u36 u37 u38 u39 u40 u41 u42 u43 u44 u45 u46 u47 u48 u49 u50 u51 u52 u53 u54 u55 u56 u57 u58 u59 u60 u61 u62 u63 u64 u65 u66 u67 : Value} (w wq : World) (B : Bool) (P A Bb : Nat) (px py ax ay bx by_ tn d xi yi r x y : Int) (hB : Below w.heap.size w wq) (tp : TwoIs wq P px py) (ta : TwoIs wq A ax ay) (tb : TwoIs wq Bb bx by_) (FT : Hid (∀ W, Calls Try.prog 34 #[pt px py, pt ax ay, pt bx by_] W fun e w' => ∃ z, e = .returned z ∧ Rt w' z tn d 18 ∧ Below W.heap.size W w')) (AT : Hid (∀ v W, Rt W v tn d 18 → Calls Try.prog 36 #[pt ax ay, pt bx by_, v] W fun e w' => ∃ x y, e = .returned (.tuple #[x, y]) ∧ Rt w' x xi d 23 ∧ Rt w' y yi d 23 ∧ Below W.heap.size W w')) (Kpx : Hid (∀ W, Calls Try.prog 26 #[.int .i64 (IntKind.i64.wrap px)] W fun e w' => ∃ z, e = .returned z ∧ Rt w' z px 1 2 ∧ Below W.heap.size W w')) (Kpy : Hid (∀ W, Calls Try.prog 26 #[.int .i64 (IntKind.i64.wrap py)] W fun e w' => ∃ z, e = .returned z ∧ Rt w' z py 1 2 ∧ Below W.heap.size W w')) (KR : Hid (∀ W, Calls Try.prog 26 #[.int .i64 (r)] W fun e w' => ∃ z, e = .returned z ∧ Rt w' z r 1 2 ∧ Below W.heap.size W w')) (hx : Hid (px * d + -xi = x)) (hy : Hid (py * d + -yi = y)) (E : Hid (B = decide (x * x * (d * d) + y * y * (d * d) ≤ r * r * (d * d * (d * d))))) (Q : Exit → Act → World → Prop) (hQ : Q = bodyPost Try.prog Try.f14 (fun e w' => e = .returned (.bool B) ∧ Below w.heap.size w w')) (K : Act → World → Prop) (hK : ∀ a w, Code.wp Try.prog (codeTail 3 (codeOf Try.f14)) Q a w → K a w) :
    Code.wp Try.prog (codeHead 2 (codeOf Try.f14)) (Exit.then K Q) { tmps := #[u0, u1, u2, .int .i64 r, .pointer (some ⟨P, 0, none⟩), .pointer (some ⟨A, 0, none⟩), .pointer (some ⟨Bb, 0, none⟩), u7, u8, u9, u10, u11, u12, u13, u14, u15, u16, u17, u18, u19, u20, u21, u22, u23, u24, u25, u26, u27, u28, u29, u30, u31, u32, u33, u34, u35, u36, u37, u38, u39, u40, u41, u42, u43, u44, u45, u46, u47, u48, u49, u50, u51, u52, u53, u54, u55, u56, u57, u58, u59, u60, u61, u62, u63, u64, u65, u66, u67], defers := [] } wq := by
  dsimp only [codeHead, codeTail, codeOf, Try.f14, Option.getD] at hK ⊢
  subst hQ
  have hL : wq.heap.size ≤ wq.heap.size := Nat.le_refl _
  have hlt : Hid (Addr.block ⟨P, 0, none⟩ < wq.heap.size ∧ Addr.block ⟨P, 1, none⟩ < wq.heap.size ∧ Addr.block ⟨A, 0, none⟩ < wq.heap.size ∧ Addr.block ⟨A, 1, none⟩ < wq.heap.size ∧ Addr.block ⟨Bb, 0, none⟩ < wq.heap.size ∧ Addr.block ⟨Bb, 1, none⟩ < wq.heap.size) := ⟨tp.lt, tp.lt, ta.lt, ta.lt, tb.lt, tb.lt⟩
  have BW : Hid (Below wq.heap.size wq wq) := Below.refl _ _
  have B0 : Hid (Below wq.heap.size wq wq.drew) := (Below.refl _ _).drew
  have hSW : Hid (T6 ⟨P, 0, none⟩ ⟨P, 1, none⟩ ⟨A, 0, none⟩ ⟨A, 1, none⟩ ⟨Bb, 0, none⟩ ⟨Bb, 1, none⟩ (.int .i32 px) (.int .i32 py) (.int .i32 ax) (.int .i32 ay) (.int .i32 bx) (.int .i32 by_) wq.heap.size wq wq) := ⟨tp.c0, tp.c1, ta.c0, ta.c1, tb.c0, tb.c1, Below.refl _ _⟩
  have hS0 : Hid (T6 ⟨P, 0, none⟩ ⟨P, 1, none⟩ ⟨A, 0, none⟩ ⟨A, 1, none⟩ ⟨Bb, 0, none⟩ ⟨Bb, 1, none⟩ (.int .i32 px) (.int .i32 py) (.int .i32 ax) (.int .i32 ay) (.int .i32 bx) (.int .i32 by_) wq.heap.size wq wq.drew) := T6.dr hSW.out
  have FIN : Hid (∀ W', Below wq.heap.size wq W' → Below w.heap.size w W' ∧ TwoIs W' P px py) := fun W' g => ⟨hB.trans (g.mono hB.size), ⟨below_cell tp.c0 g, below_cell tp.c1 g⟩⟩
  clear hB tp ta tb
  go_region_held3 (T6 ⟨P, 0, none⟩ ⟨P, 1, none⟩ ⟨A, 0, none⟩ ⟨A, 1, none⟩ ⟨Bb, 0, none⟩ ⟨Bb, 1, none⟩ (.int .i32 px) (.int .i32 py) (.int .i32 ax) (.int .i32 ay) (.int .i32 bx) (.int .i32 by_) wq.heap.size wq)
    (repeat (first | with_reducible exact hS2.out | with_reducible exact hS1.out | with_reducible exact hS0.out | with_reducible exact hSW.out | (with_reducible refine T6.set ?_ (by simp only []; omega) hlt.out _) | (with_reducible refine T6.al ?_ hL _) | (with_reducible refine T6.dr ?_)))
    (first
      | (have _n := z1; go_at_call 36; refine (AT.out _ _ (by first | with_reducible exact z1.out | with_reducible exact z1.out.al _ | with_reducible exact z1.out.al2 _ _)).mono ?_; rintro e y2 ⟨xx, yy, rfl, hz3, hz4, g2⟩; obtain ⟨r3, o3, l3, c3, R3, O3, M3, C3, rfl, z3⟩ := hz3.shape; obtain ⟨r4, o4, l4, c4, R4, O4, M4, C4, rfl, z4⟩ := hz4.shape; clear hz3 hz4; have B2 : Hid (Below wq.heap.size wq y2) := hid' (Below.trans (by (repeat (first | with_reducible exact B2.out | with_reducible exact B1.out | with_reducible exact B0.out | with_reducible exact BW.out | (with_reducible refine bl_drew ?_) | (with_reducible refine bl_alloc ?_ _)))) (g2.mono (Below.size (by (repeat (first | with_reducible exact B2.out | with_reducible exact B1.out | with_reducible exact B0.out | with_reducible exact BW.out | (with_reducible refine bl_drew ?_) | (with_reducible refine bl_alloc ?_ _))))))); have s2 := B2.out.size; have hS2 : Hid (T6 ⟨P, 0, none⟩ ⟨P, 1, none⟩ ⟨A, 0, none⟩ ⟨A, 1, none⟩ ⟨Bb, 0, none⟩ ⟨Bb, 1, none⟩ (.int .i32 px) (.int .i32 py) (.int .i32 ax) (.int .i32 ay) (.int .i32 bx) (.int .i32 by_) wq.heap.size wq y2) := ⟨below_cell hSW.out.1 B2.out, below_cell hSW.out.2.1 B2.out, below_cell hSW.out.2.2.1 B2.out, below_cell hSW.out.2.2.2.1 B2.out, below_cell hSW.out.2.2.2.2.1 B2.out, below_cell hSW.out.2.2.2.2.2.1 B2.out, B2.out⟩; first
          | (have p1 := a1.mono g2 a1.lt; have p3 := a2.mono g2 a2.lt; have e0 := p1.c0; have e1 := p1.c1; have e2 := p1.c2; have e3 := p1.c3; have ef := p1.f; have el := p1.lt; have f0 := p3.c0; have f1 := p3.c1; have f2 := p3.c2; have f3 := p3.c3; have ff := p3.f; have fl := p3.lt)
          | (have ne1 := Nat.ne_of_lt a1.lt; have ne2 := ne1.symm; have p1 : Q4 y2 wq.heap.size (.bool false) (.slice none 0 0) (.bool false) (.slice none 0 0) := (by with_reducible exact Q4.alx a1 g2); have p3 : Q4 y2 y1.heap.size (.bool false) (.slice none 0 0) (.bool false) (.slice none 0 0) := (by with_reducible exact Q4.nx g2); have e0 := p1.c0; have e1 := p1.c1; have e2 := p1.c2; have e3 := p1.c3; have ef := p1.f; have el := p1.lt; have f0 := p3.c0; have f1 := p3.c1; have f2 := p3.c2; have f3 := p3.c3; have ff := p3.f; have fl := p3.lt)
          | (have p1 := a1.mono g2 a1.lt; have e0 := p1.c0; have e1 := p1.c1; have e2 := p1.c2; have e3 := p1.c3; have ef := p1.f; have el := p1.lt)
          | (have p1 : Q4 y2 y1.heap.size (.bool false) (.slice none 0 0) (.bool false) (.slice none 0 0) := (by with_reducible exact Q4.nx2a g2); have p3 : Q4 y2 (y1.heap.size + 1) (.bool false) (.slice none 0 0) (.bool false) (.slice none 0 0) := (by with_reducible exact Q4.nx2b g2); have e0 := p1.c0; have e1 := p1.c1; have e2 := p1.c2; have e3 := p1.c3; have ef := p1.f; have el := p1.lt; have f0 := p3.c0; have f1 := p3.c1; have f2 := p3.c2; have f3 := p3.c3; have ff := p3.f; have fl := p3.lt)
          | (have p1 : Q4 y2 y1.heap.size (.bool false) (.slice none 0 0) (.bool false) (.slice none 0 0) := (by with_reducible exact Q4.nx g2); have e0 := p1.c0; have e1 := p1.c1; have e2 := p1.c2; have e3 := p1.c3; have ef := p1.f; have el := p1.lt)
          | skip)
      | (go_at_call 34; refine (FT.out _).mono ?_; rintro e y1 ⟨zz, rfl, hz, g1⟩; obtain ⟨r1, o1, l1, c1, R1, O1, M1, C1, rfl, z1⟩ := hz.shape; clear hz; have B1 : Hid (Below wq.heap.size wq y1) := hid' (Below.trans (by (repeat (first | with_reducible exact B2.out | with_reducible exact B1.out | with_reducible exact B0.out | with_reducible exact BW.out | (with_reducible refine bl_drew ?_) | (with_reducible refine bl_alloc ?_ _)))) (g1.mono (Below.size (by (repeat (first | with_reducible exact B2.out | with_reducible exact B1.out | with_reducible exact B0.out | with_reducible exact BW.out | (with_reducible refine bl_drew ?_) | (with_reducible refine bl_alloc ?_ _))))))); have s1 := B1.out.size; have hS1 : Hid (T6 ⟨P, 0, none⟩ ⟨P, 1, none⟩ ⟨A, 0, none⟩ ⟨A, 1, none⟩ ⟨Bb, 0, none⟩ ⟨Bb, 1, none⟩ (.int .i32 px) (.int .i32 py) (.int .i32 ax) (.int .i32 ay) (.int .i32 bx) (.int .i32 by_) wq.heap.size wq y1) := ⟨below_cell hSW.out.1 B1.out, below_cell hSW.out.2.1 B1.out, below_cell hSW.out.2.2.1 B1.out, below_cell hSW.out.2.2.2.1 B1.out, below_cell hSW.out.2.2.2.2.1 B1.out, below_cell hSW.out.2.2.2.2.2.1 B1.out, B1.out⟩; first
          | (have a1 : Q4 y1 wq.heap.size (.bool false) (.slice none 0 0) (.bool false) (.slice none 0 0) := (by with_reducible exact Q4.nw2a g1); have a2 : Q4 y1 (wq.heap.size + 1) (.bool false) (.slice none 0 0) (.bool false) (.slice none 0 0) := (by with_reducible exact Q4.nw2b g1))
          | (have a1 : Q4 y1 wq.heap.size (.bool false) (.slice none 0 0) (.bool false) (.slice none 0 0) := (by with_reducible exact Q4.nw g1))
          | skip))
  all_goals
    go_upto_region 4 with fail
    exact near_t3x w _ B wq P _ _ px py d xi yi r x y FIN (by first | with_reducible exact finA z3.out z4.out B2.out | with_reducible exact turn3 (finA z4.out z3.out B2.out) | with_reducible exact finB p1 z3.out z4.out B2.out (by omega) | with_reducible exact turn3 (finB p1 z4.out z3.out B2.out (by omega)) | with_reducible exact finC p1 p3 (by omega) z3.out z4.out B2.out (by omega) (by omega) | with_reducible exact finC p3 p1 (by omega) z3.out z4.out B2.out (by omega) (by omega)) Kpx Kpy KR hx hy E _ rfl _ (by assumption)
end
section
open Go.RowKit Go.Sort

structure Hq (w w' : World) (p a b : P2) : Prop where
  p : TwoIs w' w.heap.size p.1 p.2
  a : TwoIs w' (w.heap.size + 1) a.1 a.2
  b : TwoIs w' (w.heap.size + 1 + 1) b.1 b.2
  g : Below w.heap.size w w'
theorem Hq.mono {w w1 w2 : World} {p a b : P2} (h : Hq w w1 p a b) (g : Below w1.heap.size w1 w2) : Hq w w2 p a b :=
  ⟨⟨below_cell h.p.c0 g, below_cell h.p.c1 g⟩, ⟨below_cell h.a.c0 g, below_cell h.a.c1 g⟩, ⟨below_cell h.b.c0 g, below_cell h.b.c1 g⟩, h.g.trans (g.mono h.g.size)⟩
theorem Hq.new (w : World) (px py ax ay bx by_ : Int) : Hq w (((w.alloc (.cells #[.int .i32 px, .int .i32 py] 23)).alloc (.cells #[.int .i32 ax, .int .i32 ay] 23)).alloc (.cells #[.int .i32 bx, .int .i32 by_] 23)) (px, py) (ax, ay) (bx, by_) :=
  ⟨⟨by go_simp, by go_simp⟩, ⟨by go_simp, by go_simp⟩, ⟨by go_simp, by go_simp⟩, ((((Gr.refl _).alloc _).alloc _).alloc _).below⟩
set_option maxRecDepth 20000 in
set_option maxHeartbeats 4000000 in
theorem rnear_neg (p a b : P2) (r : Int) (w : World) (h : r < 0) : Calls Try.prog 14 #[ptv p, ptv a, ptv b, .int .i64 r] w fun e w' => e = .returned (.bool false) ∧ Below w.heap.size w w' := by
  obtain ⟨px, py⟩ := p
  obtain ⟨ax, ay⟩ := a
  obtain ⟨bx, by_⟩ := b
  show Calls Try.prog 14 #[pt px py, pt ax ay, pt bx by_, .int .i64 r] w _
  go_enter Try.func14, Try.ntmps14
  go_wp2
  go_ret
  exact ⟨rfl, ((((Gr.refl _).alloc _).alloc _).alloc _).below⟩
set_option maxRecDepth 20000 in
set_option maxHeartbeats 4000000 in
theorem rnear_offP (p a b : P2) (r : Int) (w : World) (h : 0 ≤ r) (lp : latP p = false) : Calls Try.prog 14 #[ptv p, ptv a, ptv b, .int .i64 r] w fun e w' => e = .returned (.bool false) ∧ Below w.heap.size w w' := by
  have IP : Hid (∀ W, Calls Try.prog 18 #[ptv p] W fun e w' => e = .returned (.bool false) ∧ Gr W w') := fun W => by have := rin_any p W; rw [lp] at this; exact this
  obtain ⟨px, py⟩ := p
  obtain ⟨ax, ay⟩ := a
  obtain ⟨bx, by_⟩ := b
  have S : Hq w (((w.alloc (.cells #[.int .i32 px, .int .i32 py] 23)).alloc (.cells #[.int .i32 ax, .int .i32 ay] 23)).alloc (.cells #[.int .i32 bx, .int .i32 by_] 23)) (px, py) (ax, ay) (bx, by_) := Hq.new w px py ax ay bx by_
  show Calls Try.prog 14 #[pt px py, pt ax ay, pt bx by_, .int .i64 r] w _
  go_enter Try.func14, Try.ntmps14
  go_wp2_with fail
  refine (IP.out _).mono ?_
  generalize (((w.alloc (.cells #[.int .i32 px, .int .i32 py] 23)).alloc (.cells #[.int .i32 ax, .int .i32 ay] 23)).alloc (.cells #[.int .i32 bx, .int .i32 by_] 23)) = W at *
  rintro e w1 ⟨rfl, g1⟩
  replace S := S.mono g1.below
  clear g1
  dsimp only
  have hb := S.g
  go_wp2
  go_ret
  exact ⟨rfl, hb⟩
set_option maxRecDepth 20000 in
set_option maxHeartbeats 4000000 in
theorem rnear_offA (p a b : P2) (r : Int) (w : World) (h : 0 ≤ r) (lp : lat p) (la : latP a = false) : Calls Try.prog 14 #[ptv p, ptv a, ptv b, .int .i64 r] w fun e w' => e = .returned (.bool false) ∧ Below w.heap.size w w' := by
  have IP : Hid (∀ W, Calls Try.prog 18 #[ptv p] W fun e w' => e = .returned (.bool true) ∧ Gr W w') := fun W => by have := rin_any p W; rw [(latP_iff p).mpr lp] at this; exact this
  have IA : Hid (∀ W, Calls Try.prog 18 #[ptv a] W fun e w' => e = .returned (.bool false) ∧ Gr W w') := fun W => by have := rin_any a W; rw [la] at this; exact this
  obtain ⟨px, py⟩ := p
  obtain ⟨ax, ay⟩ := a
  obtain ⟨bx, by_⟩ := b
  have S : Hq w (((w.alloc (.cells #[.int .i32 px, .int .i32 py] 23)).alloc (.cells #[.int .i32 ax, .int .i32 ay] 23)).alloc (.cells #[.int .i32 bx, .int .i32 by_] 23)) (px, py) (ax, ay) (bx, by_) := Hq.new w px py ax ay bx by_
  show Calls Try.prog 14 #[pt px py, pt ax ay, pt bx by_, .int .i64 r] w _
  go_enter Try.func14, Try.ntmps14
  go_wp2_with fail
  refine (IP.out _).mono ?_
  generalize (((w.alloc (.cells #[.int .i32 px, .int .i32 py] 23)).alloc (.cells #[.int .i32 ax, .int .i32 ay] 23)).alloc (.cells #[.int .i32 bx, .int .i32 by_] 23)) = W at *
  rintro e w1 ⟨rfl, g1⟩
  replace S := S.mono g1.below
  clear g1
  dsimp only
  have a0 := S.a.c0
  have a1 := S.a.c1
  go_wp2_with fail
  refine (IA.out _).mono ?_
  rintro e w2 ⟨rfl, g2⟩
  replace S := S.mono g2.below
  clear g2
  dsimp only
  clear a0 a1
  have hb := S.g
  go_wp2
  go_ret
  exact ⟨rfl, hb⟩
set_option maxRecDepth 20000 in
set_option maxHeartbeats 4000000 in
theorem rnear_offB (p a b : P2) (r : Int) (w : World) (h : 0 ≤ r) (lp : lat p) (la : lat a) (lb : latP b = false) : Calls Try.prog 14 #[ptv p, ptv a, ptv b, .int .i64 r] w fun e w' => e = .returned (.bool false) ∧ Below w.heap.size w w' := by
  have IP : Hid (∀ W, Calls Try.prog 18 #[ptv p] W fun e w' => e = .returned (.bool true) ∧ Gr W w') := fun W => by have := rin_any p W; rw [(latP_iff p).mpr lp] at this; exact this
  have IA : Hid (∀ W, Calls Try.prog 18 #[ptv a] W fun e w' => e = .returned (.bool true) ∧ Gr W w') := fun W => by have := rin_any a W; rw [(latP_iff a).mpr la] at this; exact this
  have IB : Hid (∀ W, Calls Try.prog 18 #[ptv b] W fun e w' => e = .returned (.bool false) ∧ Gr W w') := fun W => by have := rin_any b W; rw [lb] at this; exact this
  obtain ⟨px, py⟩ := p
  obtain ⟨ax, ay⟩ := a
  obtain ⟨bx, by_⟩ := b
  have S : Hq w (((w.alloc (.cells #[.int .i32 px, .int .i32 py] 23)).alloc (.cells #[.int .i32 ax, .int .i32 ay] 23)).alloc (.cells #[.int .i32 bx, .int .i32 by_] 23)) (px, py) (ax, ay) (bx, by_) := Hq.new w px py ax ay bx by_
  show Calls Try.prog 14 #[pt px py, pt ax ay, pt bx by_, .int .i64 r] w _
  go_enter Try.func14, Try.ntmps14
  go_wp2_with fail
  refine (IP.out _).mono ?_
  generalize (((w.alloc (.cells #[.int .i32 px, .int .i32 py] 23)).alloc (.cells #[.int .i32 ax, .int .i32 ay] 23)).alloc (.cells #[.int .i32 bx, .int .i32 by_] 23)) = W at *
  rintro e w1 ⟨rfl, g1⟩
  replace S := S.mono g1.below
  clear g1
  dsimp only
  have a0 := S.a.c0
  have a1 := S.a.c1
  go_wp2_with fail
  refine (IA.out _).mono ?_
  rintro e w2 ⟨rfl, g2⟩
  replace S := S.mono g2.below
  clear g2
  dsimp only
  clear a0 a1
  have b0 := S.b.c0
  have b1 := S.b.c1
  go_wp2_with fail
  refine (IB.out _).mono ?_
  rintro e w3 ⟨rfl, g3⟩
  replace S := S.mono g3.below
  clear g3
  dsimp only
  clear b0 b1
  have hb := S.g
  go_wp2
  go_ret
  exact ⟨rfl, hb⟩
set_option maxRecDepth 20000 in
set_option maxHeartbeats 4000000 in
theorem rnear_on (p a b : P2) (r : Int) (w : World) (h : 0 ≤ r) (h' : r ≤ 9223372036854775807) (lp : lat p) (la : lat a) (lb : lat b) : Calls Try.prog 14 #[ptv p, ptv a, ptv b, .int .i64 r] w fun e w' => e = .returned (.bool (nearB p a b r)) ∧ Below w.heap.size w w' := by
  have IP : Hid (∀ W, Calls Try.prog 18 #[ptv p] W fun e w' => e = .returned (.bool true) ∧ Gr W w') := fun W => by have := rin_any p W; rw [(latP_iff p).mpr lp] at this; exact this
  have IA : Hid (∀ W, Calls Try.prog 18 #[ptv a] W fun e w' => e = .returned (.bool true) ∧ Gr W w') := fun W => by have := rin_any a W; rw [(latP_iff a).mpr la] at this; exact this
  have IB : Hid (∀ W, Calls Try.prog 18 #[ptv b] W fun e w' => e = .returned (.bool true) ∧ Gr W w') := fun W => by have := rin_any b W; rw [(latP_iff b).mpr lb] at this; exact this
  have FT := hid' (fun W => foot_rt p a b W lp.ins la.ins lb.ins)
  have AT := hid' (fun v W h => at_rt a b v (rft p a b).1 (rft p a b).2 W la.ins lb.ins h)
  have KR : Hid (∀ W, Calls Try.prog 26 #[.int .i64 (r)] W fun e w' => ∃ z, e = .returned z ∧ Rt w' z r 1 2 ∧ Below W.heap.size W w') := fun W => whole_rt r W (by omega) h'
  have Kpx : Hid (∀ W, Calls Try.prog 26 #[.int .i64 (IntKind.i64.wrap p.1)] W fun e w' => ∃ z, e = .returned z ∧ Rt w' z p.1 1 2 ∧ Below W.heap.size W w') := fun W => by
    have i := lp.ins.1
    unfold in32 at i
    rw [show IntKind.i64.wrap p.1 = p.1 by rw [IntKind.wrap_i64]; omega]
    exact whole_rt p.1 W (by omega) (by omega)
  have Kpy : Hid (∀ W, Calls Try.prog 26 #[.int .i64 (IntKind.i64.wrap p.2)] W fun e w' => ∃ z, e = .returned z ∧ Rt w' z p.2 1 2 ∧ Below W.heap.size W w') := fun W => by
    have i := lp.ins.2
    unfold in32 at i
    rw [show IntKind.i64.wrap p.2 = p.2 by rw [IntKind.wrap_i64]; omega]
    exact whole_rt p.2 W (by omega) (by omega)
  have E : Hid (nearB p a b r = decide (rdX p a b * rdX p a b * ((rft p a b).2 * (rft p a b).2) + rdY p a b * rdY p a b * ((rft p a b).2 * (rft p a b).2) ≤ r * r * ((rft p a b).2 * (rft p a b).2 * ((rft p a b).2 * (rft p a b).2)))) := (near_rd lp la h).symm
  have hx : Hid (p.1 * (rft p a b).2 + -(a.1 * (rft p a b).2 + (rft p a b).1 * (b.1 - a.1)) = rdX p a b) := by unfold Hid rdX; grind
  have hy : Hid (p.2 * (rft p a b).2 + -(a.2 * (rft p a b).2 + (rft p a b).1 * (b.2 - a.2)) = rdY p a b) := by unfold Hid rdY; grind
  generalize nearB p a b r = B at *
  generalize rdX p a b = X at *
  generalize rdY p a b = Y at *
  generalize (rft p a b).1 = tn at *
  generalize (rft p a b).2 = td at *
  clear lp la lb h'
  obtain ⟨px, py⟩ := p
  obtain ⟨ax, ay⟩ := a
  obtain ⟨bx, by_⟩ := b
  simp only at hx hy Kpx Kpy AT
  generalize ax * td + tn * (bx - ax) = xi at *
  generalize ay * td + tn * (by_ - ay) = yi at *
  have S : Hq w (((w.alloc (.cells #[.int .i32 px, .int .i32 py] 23)).alloc (.cells #[.int .i32 ax, .int .i32 ay] 23)).alloc (.cells #[.int .i32 bx, .int .i32 by_] 23)) (px, py) (ax, ay) (bx, by_) := Hq.new w px py ax ay bx by_
  show Calls Try.prog 14 #[pt px py, pt ax ay, pt bx by_, .int .i64 r] w _
  go_enter Try.func14, Try.ntmps14
  go_wp2_with fail
  refine (IP.out _).mono ?_
  generalize (((w.alloc (.cells #[.int .i32 px, .int .i32 py] 23)).alloc (.cells #[.int .i32 ax, .int .i32 ay] 23)).alloc (.cells #[.int .i32 bx, .int .i32 by_] 23)) = W at *
  rintro e w1 ⟨rfl, g1⟩
  replace S := S.mono g1.below
  clear g1
  dsimp only
  have a0 := S.a.c0
  have a1 := S.a.c1
  go_wp2_with fail
  refine (IA.out _).mono ?_
  rintro e w2 ⟨rfl, g2⟩
  replace S := S.mono g2.below
  clear g2
  dsimp only
  clear a0 a1
  have b0 := S.b.c0
  have b1 := S.b.c1
  go_wp2_with fail
  refine (IB.out _).mono ?_
  rintro e w3 ⟨rfl, g3⟩
  replace S := S.mono g3.below
  clear g3
  dsimp only
  clear b0 b1
  go_upto_region 3 with fail
  exact near_t2 w _ B w.heap.size (w.heap.size + 1) (w.heap.size + 1 + 1) px py ax ay bx by_ tn td xi yi r X Y S.g S.p S.a S.b FT AT Kpx Kpy KR hx hy E _ rfl _ (by assumption)
theorem rnear_any (p a b : P2) (r : Int) (w : World) (hr : r ≤ 9223372036854775807) : Calls Try.prog 14 #[ptv p, ptv a, ptv b, .int .i64 r] w fun e w' => e = .returned (.bool (nearA p a b r)) ∧ Below w.heap.size w w' := by
  unfold nearA
  by_cases h : 0 ≤ r
  · rw [decide_eq_true h]
    cases hP : latP p with
    | false => simpa using rnear_offP p a b r w h hP
    | true =>
    have lp := (latP_iff p).mp hP
    cases hA : latP a with
    | false => simpa using rnear_offA p a b r w h lp hA
    | true =>
    have la := (latP_iff a).mp hA
    cases hB : latP b with
    | false => simpa using rnear_offB p a b r w h lp la hB
    | true =>
    have lb := (latP_iff b).mp hB
    simpa using rnear_on p a b r w h hr lp la lb
  · rw [decide_eq_false h]
    simpa using rnear_neg p a b r w (by omega)
end
section
open Go.RowKit Go.Sort

structure Jq (w w' : World) (a b c d : P2) : Prop where
  a : TwoIs w' w.heap.size a.1 a.2
  b : TwoIs w' (w.heap.size + 1) b.1 b.2
  c : TwoIs w' (w.heap.size + 1 + 1) c.1 c.2
  d : TwoIs w' (w.heap.size + 1 + 1 + 1) d.1 d.2
  g : Below w.heap.size w w'
theorem Jq.mono {w w1 w2 : World} {a b c d : P2} (h : Jq w w1 a b c d) (g : Below w1.heap.size w1 w2) : Jq w w2 a b c d :=
  ⟨⟨below_cell h.a.c0 g, below_cell h.a.c1 g⟩, ⟨below_cell h.b.c0 g, below_cell h.b.c1 g⟩, ⟨below_cell h.c.c0 g, below_cell h.c.c1 g⟩, ⟨below_cell h.d.c0 g, below_cell h.d.c1 g⟩, h.g.trans (g.mono h.g.size)⟩
theorem Jq.new (w : World) (ax ay bx by_ cx cy dx dy : Int) : Jq w ((((w.alloc (.cells #[.int .i32 ax, .int .i32 ay] 23)).alloc (.cells #[.int .i32 bx, .int .i32 by_] 23)).alloc (.cells #[.int .i32 cx, .int .i32 cy] 23)).alloc (.cells #[.int .i32 dx, .int .i32 dy] 23)) (ax, ay) (bx, by_) (cx, cy) (dx, dy) :=
  ⟨⟨by go_simp, by go_simp⟩, ⟨by go_simp, by go_simp⟩, ⟨by go_simp, by go_simp⟩, ⟨by go_simp, by go_simp⟩, (((((Gr.refl _).alloc _).alloc _).alloc _).alloc _).below⟩
set_option maxRecDepth 20000 in
set_option maxHeartbeats 4000000 in
theorem rnears_neg (a b c d : P2) (r : Int) (w : World) (h : r < 0) : Calls Try.prog 16 #[ptv a, ptv b, ptv c, ptv d, .int .i64 r] w fun e w' => e = .returned (.bool false) ∧ Below w.heap.size w w' := by
  obtain ⟨ax, ay⟩ := a
  obtain ⟨bx, by_⟩ := b
  obtain ⟨cx, cy⟩ := c
  obtain ⟨dx, dy⟩ := d
  show Calls Try.prog 16 #[pt ax ay, pt bx by_, pt cx cy, pt dx dy, .int .i64 r] w _
  go_enter Try.func16, Try.ntmps16
  go_wp2
  go_ret
  exact ⟨rfl, (((((Gr.refl _).alloc _).alloc _).alloc _).alloc _).below⟩
set_option maxRecDepth 20000 in
set_option maxHeartbeats 4000000 in
theorem rnears_offA (a b c d : P2) (r : Int) (w : World) (h : 0 ≤ r) (la : latP a = false) : Calls Try.prog 16 #[ptv a, ptv b, ptv c, ptv d, .int .i64 r] w fun e w' => e = .returned (.bool false) ∧ Below w.heap.size w w' := by
  have IA : Hid (∀ W, Calls Try.prog 18 #[ptv a] W fun e w' => e = .returned (.bool false) ∧ Gr W w') := fun W => by have := rin_any a W; rw [la] at this; exact this
  obtain ⟨ax, ay⟩ := a
  obtain ⟨bx, by_⟩ := b
  obtain ⟨cx, cy⟩ := c
  obtain ⟨dx, dy⟩ := d
  have S : Jq w ((((w.alloc (.cells #[.int .i32 ax, .int .i32 ay] 23)).alloc (.cells #[.int .i32 bx, .int .i32 by_] 23)).alloc (.cells #[.int .i32 cx, .int .i32 cy] 23)).alloc (.cells #[.int .i32 dx, .int .i32 dy] 23)) (ax, ay) (bx, by_) (cx, cy) (dx, dy) := Jq.new w ax ay bx by_ cx cy dx dy
  show Calls Try.prog 16 #[pt ax ay, pt bx by_, pt cx cy, pt dx dy, .int .i64 r] w _
  go_enter Try.func16, Try.ntmps16
  go_wp2_with fail
  refine (IA.out _).mono ?_
  generalize ((((w.alloc (.cells #[.int .i32 ax, .int .i32 ay] 23)).alloc (.cells #[.int .i32 bx, .int .i32 by_] 23)).alloc (.cells #[.int .i32 cx, .int .i32 cy] 23)).alloc (.cells #[.int .i32 dx, .int .i32 dy] 23)) = W at *
  rintro e w1 ⟨rfl, g1⟩
  replace S := S.mono g1.below
  clear g1
  dsimp only
  have hb := S.g
  go_wp2
  go_ret
  exact ⟨rfl, hb⟩
set_option maxRecDepth 20000 in
set_option maxHeartbeats 4000000 in
theorem rnears_offB (a b c d : P2) (r : Int) (w : World) (h : 0 ≤ r) (la : lat a) (lb : latP b = false) : Calls Try.prog 16 #[ptv a, ptv b, ptv c, ptv d, .int .i64 r] w fun e w' => e = .returned (.bool false) ∧ Below w.heap.size w w' := by
  have IA : Hid (∀ W, Calls Try.prog 18 #[ptv a] W fun e w' => e = .returned (.bool true) ∧ Gr W w') := fun W => by have := rin_any a W; rw [(latP_iff a).mpr la] at this; exact this
  have IB : Hid (∀ W, Calls Try.prog 18 #[ptv b] W fun e w' => e = .returned (.bool false) ∧ Gr W w') := fun W => by have := rin_any b W; rw [lb] at this; exact this
  obtain ⟨ax, ay⟩ := a
  obtain ⟨bx, by_⟩ := b
  obtain ⟨cx, cy⟩ := c
  obtain ⟨dx, dy⟩ := d
  have S : Jq w ((((w.alloc (.cells #[.int .i32 ax, .int .i32 ay] 23)).alloc (.cells #[.int .i32 bx, .int .i32 by_] 23)).alloc (.cells #[.int .i32 cx, .int .i32 cy] 23)).alloc (.cells #[.int .i32 dx, .int .i32 dy] 23)) (ax, ay) (bx, by_) (cx, cy) (dx, dy) := Jq.new w ax ay bx by_ cx cy dx dy
  show Calls Try.prog 16 #[pt ax ay, pt bx by_, pt cx cy, pt dx dy, .int .i64 r] w _
  go_enter Try.func16, Try.ntmps16
  go_wp2_with fail
  refine (IA.out _).mono ?_
  generalize ((((w.alloc (.cells #[.int .i32 ax, .int .i32 ay] 23)).alloc (.cells #[.int .i32 bx, .int .i32 by_] 23)).alloc (.cells #[.int .i32 cx, .int .i32 cy] 23)).alloc (.cells #[.int .i32 dx, .int .i32 dy] 23)) = W at *
  rintro e w1 ⟨rfl, g1⟩
  replace S := S.mono g1.below
  clear g1
  dsimp only
  have b0 := S.b.c0
  have b1 := S.b.c1
  go_wp2_with fail
  refine (IB.out _).mono ?_
  rintro e w2 ⟨rfl, g2⟩
  replace S := S.mono g2.below
  clear g2
  dsimp only
  clear b0 b1
  have hb := S.g
  go_wp2
  go_ret
  exact ⟨rfl, hb⟩
set_option maxRecDepth 20000 in
set_option maxHeartbeats 4000000 in
theorem rnears_offC (a b c d : P2) (r : Int) (w : World) (h : 0 ≤ r) (la : lat a) (lb : lat b) (lc : latP c = false) : Calls Try.prog 16 #[ptv a, ptv b, ptv c, ptv d, .int .i64 r] w fun e w' => e = .returned (.bool false) ∧ Below w.heap.size w w' := by
  have IA : Hid (∀ W, Calls Try.prog 18 #[ptv a] W fun e w' => e = .returned (.bool true) ∧ Gr W w') := fun W => by have := rin_any a W; rw [(latP_iff a).mpr la] at this; exact this
  have IB : Hid (∀ W, Calls Try.prog 18 #[ptv b] W fun e w' => e = .returned (.bool true) ∧ Gr W w') := fun W => by have := rin_any b W; rw [(latP_iff b).mpr lb] at this; exact this
  have IC : Hid (∀ W, Calls Try.prog 18 #[ptv c] W fun e w' => e = .returned (.bool false) ∧ Gr W w') := fun W => by have := rin_any c W; rw [lc] at this; exact this
  obtain ⟨ax, ay⟩ := a
  obtain ⟨bx, by_⟩ := b
  obtain ⟨cx, cy⟩ := c
  obtain ⟨dx, dy⟩ := d
  have S : Jq w ((((w.alloc (.cells #[.int .i32 ax, .int .i32 ay] 23)).alloc (.cells #[.int .i32 bx, .int .i32 by_] 23)).alloc (.cells #[.int .i32 cx, .int .i32 cy] 23)).alloc (.cells #[.int .i32 dx, .int .i32 dy] 23)) (ax, ay) (bx, by_) (cx, cy) (dx, dy) := Jq.new w ax ay bx by_ cx cy dx dy
  show Calls Try.prog 16 #[pt ax ay, pt bx by_, pt cx cy, pt dx dy, .int .i64 r] w _
  go_enter Try.func16, Try.ntmps16
  go_wp2_with fail
  refine (IA.out _).mono ?_
  generalize ((((w.alloc (.cells #[.int .i32 ax, .int .i32 ay] 23)).alloc (.cells #[.int .i32 bx, .int .i32 by_] 23)).alloc (.cells #[.int .i32 cx, .int .i32 cy] 23)).alloc (.cells #[.int .i32 dx, .int .i32 dy] 23)) = W at *
  rintro e w1 ⟨rfl, g1⟩
  replace S := S.mono g1.below
  clear g1
  dsimp only
  have b0 := S.b.c0
  have b1 := S.b.c1
  go_wp2_with fail
  refine (IB.out _).mono ?_
  rintro e w2 ⟨rfl, g2⟩
  replace S := S.mono g2.below
  clear g2
  dsimp only
  clear b0 b1
  have c0 := S.c.c0
  have c1 := S.c.c1
  go_wp2_with fail
  refine (IC.out _).mono ?_
  rintro e w3 ⟨rfl, g3⟩
  replace S := S.mono g3.below
  clear g3
  dsimp only
  clear c0 c1
  have hb := S.g
  go_wp2
  go_ret
  exact ⟨rfl, hb⟩
set_option maxRecDepth 20000 in
set_option maxHeartbeats 4000000 in
theorem rnears_offD (a b c d : P2) (r : Int) (w : World) (h : 0 ≤ r) (la : lat a) (lb : lat b) (lc : lat c) (ld : latP d = false) : Calls Try.prog 16 #[ptv a, ptv b, ptv c, ptv d, .int .i64 r] w fun e w' => e = .returned (.bool false) ∧ Below w.heap.size w w' := by
  have IA : Hid (∀ W, Calls Try.prog 18 #[ptv a] W fun e w' => e = .returned (.bool true) ∧ Gr W w') := fun W => by have := rin_any a W; rw [(latP_iff a).mpr la] at this; exact this
  have IB : Hid (∀ W, Calls Try.prog 18 #[ptv b] W fun e w' => e = .returned (.bool true) ∧ Gr W w') := fun W => by have := rin_any b W; rw [(latP_iff b).mpr lb] at this; exact this
  have IC : Hid (∀ W, Calls Try.prog 18 #[ptv c] W fun e w' => e = .returned (.bool true) ∧ Gr W w') := fun W => by have := rin_any c W; rw [(latP_iff c).mpr lc] at this; exact this
  have ID : Hid (∀ W, Calls Try.prog 18 #[ptv d] W fun e w' => e = .returned (.bool false) ∧ Gr W w') := fun W => by have := rin_any d W; rw [ld] at this; exact this
  obtain ⟨ax, ay⟩ := a
  obtain ⟨bx, by_⟩ := b
  obtain ⟨cx, cy⟩ := c
  obtain ⟨dx, dy⟩ := d
  have S : Jq w ((((w.alloc (.cells #[.int .i32 ax, .int .i32 ay] 23)).alloc (.cells #[.int .i32 bx, .int .i32 by_] 23)).alloc (.cells #[.int .i32 cx, .int .i32 cy] 23)).alloc (.cells #[.int .i32 dx, .int .i32 dy] 23)) (ax, ay) (bx, by_) (cx, cy) (dx, dy) := Jq.new w ax ay bx by_ cx cy dx dy
  show Calls Try.prog 16 #[pt ax ay, pt bx by_, pt cx cy, pt dx dy, .int .i64 r] w _
  go_enter Try.func16, Try.ntmps16
  go_wp2_with fail
  refine (IA.out _).mono ?_
  generalize ((((w.alloc (.cells #[.int .i32 ax, .int .i32 ay] 23)).alloc (.cells #[.int .i32 bx, .int .i32 by_] 23)).alloc (.cells #[.int .i32 cx, .int .i32 cy] 23)).alloc (.cells #[.int .i32 dx, .int .i32 dy] 23)) = W at *
  rintro e w1 ⟨rfl, g1⟩
  replace S := S.mono g1.below
  clear g1
  dsimp only
  have b0 := S.b.c0
  have b1 := S.b.c1
  go_wp2_with fail
  refine (IB.out _).mono ?_
  rintro e w2 ⟨rfl, g2⟩
  replace S := S.mono g2.below
  clear g2
  dsimp only
  clear b0 b1
  have c0 := S.c.c0
  have c1 := S.c.c1
  go_wp2_with fail
  refine (IC.out _).mono ?_
  rintro e w3 ⟨rfl, g3⟩
  replace S := S.mono g3.below
  clear g3
  dsimp only
  clear c0 c1
  have d0 := S.d.c0
  have d1 := S.d.c1
  go_wp2_with fail
  refine (ID.out _).mono ?_
  rintro e w4 ⟨rfl, g4⟩
  replace S := S.mono g4.below
  clear g4
  dsimp only
  clear d0 d1
  have hb := S.g
  go_wp2
  go_ret
  exact ⟨rfl, hb⟩
theorem nearA_on {p a b : P2} {r : Int} (h : 0 ≤ r) (lp : lat p) (la : lat a) (lb : lat b) : nearA p a b r = nearB p a b r := by
  unfold nearA
  rw [decide_eq_true h, (latP_iff p).mpr lp, (latP_iff a).mpr la, (latP_iff b).mpr lb]
  rfl
theorem endN_eq (a b c d : P2) (r : Int) : endN a b c d r = (nearB a c d r || nearB b c d r || nearB c a b r || nearB d a b r) := by
  have e1 : nj a b c d r 1 = nearB b c d r := near_swap b c d r
  have e3 : nj a b c d r 3 = nearB d a b r := near_swap d a b r
  unfold endN
  rw [e1, e3]
  rfl
set_option maxRecDepth 20000 in
set_option maxHeartbeats 4000000 in
theorem rnears_on (a b c d : P2) (r : Int) (w : World) (h : 0 ≤ r) (h' : r ≤ 9223372036854775807) (la : lat a) (lb : lat b) (lc : lat c) (ld : lat d) : Calls Try.prog 16 #[ptv a, ptv b, ptv c, ptv d, .int .i64 r] w fun e w' => e = .returned (.bool (touchA a b c d || endN a b c d r)) ∧ Below w.heap.size w w' := by
  have IA : Hid (∀ W, Calls Try.prog 18 #[ptv a] W fun e w' => e = .returned (.bool true) ∧ Gr W w') := fun W => by have := rin_any a W; rw [(latP_iff a).mpr la] at this; exact this
  have IB : Hid (∀ W, Calls Try.prog 18 #[ptv b] W fun e w' => e = .returned (.bool true) ∧ Gr W w') := fun W => by have := rin_any b W; rw [(latP_iff b).mpr lb] at this; exact this
  have IC : Hid (∀ W, Calls Try.prog 18 #[ptv c] W fun e w' => e = .returned (.bool true) ∧ Gr W w') := fun W => by have := rin_any c W; rw [(latP_iff c).mpr lc] at this; exact this
  have ID : Hid (∀ W, Calls Try.prog 18 #[ptv d] W fun e w' => e = .returned (.bool true) ∧ Gr W w') := fun W => by have := rin_any d W; rw [(latP_iff d).mpr ld] at this; exact this
  have N1 : Hid (∀ W, Calls Try.prog 14 #[ptv a, ptv c, ptv d, .int .i64 r] W fun e w' => e = .returned (.bool (nearB a c d r)) ∧ Below W.heap.size W w') := fun W => by have := rnear_any a c d r W h'; rw [nearA_on h la lc ld] at this; exact this
  have N2 : Hid (∀ W, Calls Try.prog 14 #[ptv b, ptv c, ptv d, .int .i64 r] W fun e w' => e = .returned (.bool (nearB b c d r)) ∧ Below W.heap.size W w') := fun W => by have := rnear_any b c d r W h'; rw [nearA_on h lb lc ld] at this; exact this
  have N3 : Hid (∀ W, Calls Try.prog 14 #[ptv c, ptv a, ptv b, .int .i64 r] W fun e w' => e = .returned (.bool (nearB c a b r)) ∧ Below W.heap.size W w') := fun W => by have := rnear_any c a b r W h'; rw [nearA_on h lc la lb] at this; exact this
  have N4 : Hid (∀ W, Calls Try.prog 14 #[ptv d, ptv a, ptv b, .int .i64 r] W fun e w' => e = .returned (.bool (nearB d a b r)) ∧ Below W.heap.size W w') := fun W => by have := rnear_any d a b r W h'; rw [nearA_on h ld la lb] at this; exact this
  have MM := hid' (fun W => rmeet_any a b c d W)
  have kb : ((meetA a b c d).1 != 0) = touchA a b c d := by
    rw [Bool.eq_iff_iff, bne_iff_ne]; exact kind_ne
  rw [endN_eq]
  generalize meetA a b c d = mm at *
  generalize touchA a b c d = TB at *
  generalize nearB a c d r = B1 at *
  generalize nearB b c d r = B2 at *
  generalize nearB c a b r = B3 at *
  generalize nearB d a b r = B4 at *
  obtain ⟨mk, mi, ⟨f1, f2⟩, ⟨g1, g2⟩⟩ := mm
  simp only at kb
  clear la lb lc ld h'
  obtain ⟨ax, ay⟩ := a
  obtain ⟨bx, by_⟩ := b
  obtain ⟨cx, cy⟩ := c
  obtain ⟨dx, dy⟩ := d
  have S : Jq w ((((w.alloc (.cells #[.int .i32 ax, .int .i32 ay] 23)).alloc (.cells #[.int .i32 bx, .int .i32 by_] 23)).alloc (.cells #[.int .i32 cx, .int .i32 cy] 23)).alloc (.cells #[.int .i32 dx, .int .i32 dy] 23)) (ax, ay) (bx, by_) (cx, cy) (dx, dy) := Jq.new w ax ay bx by_ cx cy dx dy
  show Calls Try.prog 16 #[pt ax ay, pt bx by_, pt cx cy, pt dx dy, .int .i64 r] w _
  go_enter Try.func16, Try.ntmps16
  go_wp2_with fail
  refine (IA.out _).mono ?_
  generalize ((((w.alloc (.cells #[.int .i32 ax, .int .i32 ay] 23)).alloc (.cells #[.int .i32 bx, .int .i32 by_] 23)).alloc (.cells #[.int .i32 cx, .int .i32 cy] 23)).alloc (.cells #[.int .i32 dx, .int .i32 dy] 23)) = W at *
  rintro e w1 ⟨rfl, g1⟩
  replace S := S.mono g1.below
  clear g1
  dsimp only
  have b0 := S.b.c0
  have b1 := S.b.c1
  go_wp2_with fail
  refine (IB.out _).mono ?_
  rintro e w2 ⟨rfl, g2⟩
  replace S := S.mono g2.below
  clear g2
  dsimp only
  clear b0 b1
  have c0 := S.c.c0
  have c1 := S.c.c1
  go_wp2_with fail
  refine (IC.out _).mono ?_
  rintro e w3 ⟨rfl, g3⟩
  replace S := S.mono g3.below
  clear g3
  dsimp only
  clear c0 c1
  have d0 := S.d.c0
  have d1 := S.d.c1
  go_wp2_with fail
  refine (ID.out _).mono ?_
  rintro e w4 ⟨rfl, g4⟩
  replace S := S.mono g4.below
  clear g4
  dsimp only
  clear d0 d1
  have a0 := S.a.c0
  have a1 := S.a.c1
  have b0 := S.b.c0
  have b1 := S.b.c1
  have c0 := S.c.c0
  have c1 := S.c.c1
  have d0 := S.d.c0
  have d1 := S.d.c1
  go_wp2_with fail
  refine (MM.out _).mono ?_
  rintro e w5 ⟨rfl, q5⟩
  dsimp only
  have q6 : Below w5.heap.size w5 (w5.alloc (.cells #[.int .u8 mk, .bool mi, .int .i64 f1, .int .i64 f2, .int .i64 g1, .int .i64 g2] 30)) := ((Gr.refl w5).alloc _).below
  replace S := (S.mono q5).mono q6
  have h7 := M6.new w5 (.int .u8 mk) (.bool mi) (.int .i64 f1) (.int .i64 f2) (.int .i64 g1) (.int .i64 g2)
  clear q5 q6 MM a0 a1 b0 b1 c0 c1 d0 d1
  go_upto_region 4 with fail
  generalize w5.alloc (.cells #[.int .u8 mk, .bool mi, .int .i64 f1, .int .i64 f2, .int .i64 g1, .int .i64 g2] 30) = W at *
  generalize w5.heap.size = X at *
  have m0 := h7.c0
  clear h7
  cases TB with
  | true =>
    have hk : (mk == 0) = false := by simpa using kb
    clear kb N1 N2 N3 N4
    have hb := S.g
    go_wp2
    go_ret
    exact ⟨rfl, hb⟩
  | false =>
    have hk : mk = 0 := by simpa using kb
    subst hk
    clear kb
    have a0 := S.a.c0
    have a1 := S.a.c1
    have c0 := S.c.c0
    have c1 := S.c.c1
    have d0 := S.d.c0
    have d1 := S.d.c1
    go_wp2_with fail
    refine (N1.out _).mono ?_
    rintro e w6 ⟨rfl, g6⟩
    replace S := S.mono g6
    clear g6 m0
    dsimp only
    clear a0 a1 c0 c1 d0 d1
    cases B1 with
    | true =>
      have hb := S.g
      go_wp2
      go_ret
      exact ⟨rfl, hb⟩
    | false =>
    have b0 := S.b.c0
    have b1 := S.b.c1
    have c0 := S.c.c0
    have c1 := S.c.c1
    have d0 := S.d.c0
    have d1 := S.d.c1
    go_wp2_with fail
    refine (N2.out _).mono ?_
    rintro e w7 ⟨rfl, g7⟩
    replace S := S.mono g7
    clear g7
    dsimp only
    clear b0 b1 c0 c1 d0 d1
    cases B2 with
    | true =>
      have hb := S.g
      go_wp2
      go_ret
      exact ⟨rfl, hb⟩
    | false =>
    have c0 := S.c.c0
    have c1 := S.c.c1
    have a0 := S.a.c0
    have a1 := S.a.c1
    have b0 := S.b.c0
    have b1 := S.b.c1
    go_wp2_with fail
    refine (N3.out _).mono ?_
    rintro e w8 ⟨rfl, g8⟩
    replace S := S.mono g8
    clear g8
    dsimp only
    clear c0 c1 a0 a1 b0 b1
    cases B3 with
    | true =>
      have hb := S.g
      go_wp2
      go_ret
      exact ⟨rfl, hb⟩
    | false =>
    have d0 := S.d.c0
    have d1 := S.d.c1
    have a0 := S.a.c0
    have a1 := S.a.c1
    have b0 := S.b.c0
    have b1 := S.b.c1
    go_wp2_with fail
    refine (N4.out _).mono ?_
    rintro e w9 ⟨rfl, g9⟩
    replace S := S.mono g9
    clear g9
    dsimp only
    clear d0 d1 a0 a1 b0 b1
    cases B4 with
    | true =>
      have hb := S.g
      go_wp2
      go_ret
      exact ⟨rfl, hb⟩
    | false =>
    have hb := S.g
    go_wp2
    go_ret
    exact ⟨rfl, hb⟩
theorem rnears_any (a b c d : P2) (r : Int) (w : World) (hr : r ≤ 9223372036854775807) : Calls Try.prog 16 #[ptv a, ptv b, ptv c, ptv d, .int .i64 r] w fun e w' => e = .returned (.bool (nearS a b c d r)) ∧ Below w.heap.size w w' := by
  unfold nearS
  by_cases h : 0 ≤ r
  · rw [decide_eq_true h]
    cases hA : latP a with
    | false => simpa using rnears_offA a b c d r w h hA
    | true =>
    have la := (latP_iff a).mp hA
    cases hB : latP b with
    | false => simpa using rnears_offB a b c d r w h la hB
    | true =>
    have lb := (latP_iff b).mp hB
    cases hC : latP c with
    | false => simpa using rnears_offC a b c d r w h la lb hC
    | true =>
    have lc := (latP_iff c).mp hC
    cases hD : latP d with
    | false => simpa using rnears_offD a b c d r w h la lb lc hD
    | true =>
    have ld := (latP_iff d).mp hD
    exact rnears_on a b c d r w h hr la lb lc ld
  · rw [decide_eq_false h]
    exact rnears_neg a b c d r w (by omega)
end
end Go.Proofs.Ytagabccaipfjeaa
