/- Means: sums of numbers along a list; the program's Mean. -/
import Derived.Test.YtmjfphidcnjklaaHs
set_option linter.unusedSimpArgs false
namespace Go.Proofs.Ytmjfphidcnjklaa
open Go.RowKit Go.Sort Ieee

/-- Numbers that a slice holds. -/
def Cs (w : World) (so : Option Addr) (l : List (Nat × Nat)) : Prop := ∀ i, i < l.length → ∃ b off, so = some ⟨b, off, none⟩ ∧ w.cell? ⟨b, off + i, none⟩ = some (.complex .f64 (l.getD i (0, 0)).1 (l.getD i (0, 0)).2)
def Ns (w : World) (so : Option Addr) (l : List (Nat × Nat)) : Prop := ∀ i, i < l.length → ∃ b off, so = some ⟨b, off, none⟩ ∧ w.cell? ⟨b, off + i * 2, none⟩ = some (.float .f64 (l.getD i (0, 0)).1) ∧ w.cell? ⟨b, off + i * 2 + 1, none⟩ = some (.float .f64 (l.getD i (0, 0)).2)
def OkC (l : List (Nat × Nat)) : Prop := ∀ i, (l.getD i (0, 0)).1 < 18446744073709551616 ∧ (l.getD i (0, 0)).2 < 18446744073709551616
theorem Cs.gr {w w' : World} {so : Option Addr} {l : List (Nat × Nat)} (h : Cs w so l) (g : Gr w w') : Cs w' so l := fun i hi => by
  obtain ⟨b, off, e, c⟩ := h i hi
  exact ⟨b, off, e, below_cell c g.below⟩
theorem Ns.gr {w w' : World} {so : Option Addr} {l : List (Nat × Nat)} (h : Ns w so l) (g : Gr w w') : Ns w' so l := fun i hi => by
  obtain ⟨b, off, e, c, d⟩ := h i hi
  exact ⟨b, off, e, below_cell c g.below, below_cell d g.below⟩
/-- The sum of the first k, part by part. -/
def SR (l : List (Nat × Nat)) : Nat → Nat
  | 0 => 0
  | k + 1 => fo .add (SR l k) (l.getD k (0, 0)).1
def SI (l : List (Nat × Nat)) : Nat → Nat
  | 0 => 0
  | k + 1 => fo .add (SI l k) (l.getD k (0, 0)).2
def z0B (x : Nat) : Bool := FloatKind.f64.format.order x 0 == some .eq
theorem V.z0 {x X : Nat} (h : V x X) : z0B x = z0B X := by
  rcases h.2.2 with rfl | ⟨h1, h2⟩
  · rfl
  · unfold z0B
    rw [show FloatKind.f64.format.order x 0 = none from order_nan_l 0 h1, show FloatKind.f64.format.order X 0 = none from order_nan_l 0 h2]
/-- Whether there is a heading in the middle. -/
def goodB (X Y : Nat) : Bool := !(z0B X && z0B Y) && (bdd X && bdd Y)
def rtF (s : Nat) : Nat := (FloatKind.f64.format.sqrt s).getD 0
def mnR (X Y : Nat) : Nat := if goodB X Y = true then fo .quo X (rtF (sqF X Y)) else 0
def mnI (X Y : Nat) : Nat := if goodB X Y = true then fo .quo Y (rtF (sqF X Y)) else 0
theorem bdd_fin {X : Nat} (h : X < 18446744073709551616) (b : bdd X = true) : fin X ∧ ¬ isN X := by
  unfold bdd at b
  have := of_decide_eq_true b
  exact ⟨⟨h, this⟩, by unfold isN; omega⟩
theorem fo_some {op : BinOp} {a b r : Nat} (h : floatBits op .f64 a b = some r) : fo op a b = r := by unfold fo; rw [h]; rfl
theorem sq_num {X Y : Nat} (hx : fin X) (hy : fin Y) : sqF X Y ≤ 9218868437227405312 ∧ ∃ r, FloatKind.f64.format.sqrt (sqF X Y) = some r ∧ rtF (sqF X Y) = r ∧ r ≤ 9218868437227405312 := by
  obtain ⟨x, h1, l1⟩ := sq_ok hx
  obtain ⟨y, h2, l2⟩ := sq_ok hy
  obtain ⟨s, h3, l3⟩ := add_ok l1 l2
  have e : sqF X Y = s := by unfold sqF; rw [fo_some h1, fo_some h2, fo_some h3]
  obtain ⟨r, h4, l4⟩ := root_ok l3
  rw [e]
  exact ⟨l3, r, h4, by unfold rtF; rw [h4]; rfl, l4⟩
theorem not_nan {x : Nat} (h : x ≤ 9218868437227405312) : ¬ isN x := by unfold isN; omega

set_option maxRecDepth 20000 in
set_option maxHeartbeats 3200000 in
theorem mean_any (so : Option Addr) (cap : Nat) (l : List (Nat × Nat)) (w : World) (hl : l.length ≤ 281474976710656) (hok : OkC l) (hC : Cs w so l) :
    Calls Try.prog 33 #[.slice so l.length cap] w fun e w' => ∃ r s, e = .returned (.complex .f64 r s) ∧ V r (mnR (SR l l.length) (SI l l.length)) ∧ V s (mnI (SR l l.length) (SI l l.length)) ∧ Gr w w' := by
  have HC := hid' hC
  have HO := hid' hok
  clear hC hok
  go_enter Try.func33, Try.ntmps33
  go_wp2
  go_loopw [3, 8] (fun v3 v8 wr => ∃ k x y : Nat, k ≤ l.length ∧ v8 = .int .i64 k ∧ v3 = .complex .f64 x y ∧ Hid (V x (SR l k)) ∧ Hid (V y (SI l k)) ∧ Gr w wr) (fun _ v8 _ => l.length - (intOf v8).toNat)
  case atStart => exact ⟨0, 0, 0, by omega, rfl, rfl, v0, v0, Gr.refl _⟩
  case round =>
    obtain ⟨k, x, y, hk, rfl, rfl, vx, vy, hG⟩ := hrel
    by_cases hlt : k < l.length
    · obtain ⟨b, off, rfl, hcell⟩ := HC.out k hlt
      obtain ⟨o1, o2⟩ := HO.out k
      have r1 := below_cell hcell hG.below
      have va := V.refl o1
      have vb := V.refl o2
      have eR : SR l (k + 1) = fo .add (SR l k) (l.getD k (0, 0)).1 := rfl
      have eI : SI l (k + 1) = fo .add (SI l k) (l.getD k (0, 0)).2 := rfl
      have HR := hid' eR
      have HI := hid' eI
      clear hcell o1 o2 eR eI
      generalize (l.getD k (0, 0)).1 = a at *
      generalize (l.getD k (0, 0)).2 = c at *
      go_wp2_with (refine wpList_cx _ rfl .add (.inl rfl) _ _ rfl _ _ _ _ rfl rfl vx.out vy.out va vb ?_; intro r s n h1 h2)
      go_roundw
      case rel => exact ⟨k + 1, _, _, by omega, by go_num, rfl, by rw [HR.out]; exact h1, by rw [HI.out]; exact h2, hG.drewN _⟩
      case measure => simp [intOf]; omega
    · obtain rfl : k = l.length := by omega
      obtain ⟨X, hX⟩ : ∃ X, X = SR l l.length := ⟨_, rfl⟩
      obtain ⟨Y, hY⟩ : ∃ Y, Y = SI l l.length := ⟨_, rfl⟩
      have HX := hid' hX
      have HY := hid' hY
      rw [← hX] at vx
      rw [← hY] at vy
      clear hX hY
      have E0 : (FloatKind.f64.format.order x 0 == some .eq && FloatKind.f64.format.order y 0 == some .eq) = (z0B X && z0B Y) := by
        have ez : (z0B x && z0B y) = (z0B X && z0B Y) := by rw [vx.out.z0, vy.out.z0]
        exact ez
      have FN := fun w => hid' (finite_any vx.out vy.out w)
      have gd : Hid (goodB X Y = (!(z0B X && z0B Y) && (bdd X && bdd Y))) := rfl
      cases hz : (z0B X && z0B Y) with
      | true =>
        rw [hz] at E0
        have g0 : goodB X Y = false := by rw [gd.out, hz]; rfl
        have G1 : Hid (mnR (SR l l.length) (SI l l.length) = 0 ∧ mnI (SR l l.length) (SI l l.length) = 0) := by rw [← HX.out, ← HY.out]; unfold mnR mnI; rw [g0]; exact ⟨rfl, rfl⟩
        clear gd g0 HX HY
        go_wp2
        go_ret
        exact ⟨0, 0, rfl, by rw [G1.out.1]; exact v0, by rw [G1.out.2]; exact v0, hG⟩
      | false =>
        rw [hz] at E0
        cases hb : (bdd X && bdd Y) with
        | false =>
          rw [hb] at FN
          have g0 : goodB X Y = false := by rw [gd.out, hb, Bool.and_false]
          have G1 : Hid (mnR (SR l l.length) (SI l l.length) = 0 ∧ mnI (SR l l.length) (SI l l.length) = 0) := by rw [← HX.out, ← HY.out]; unfold mnR mnI; rw [g0]; exact ⟨rfl, rfl⟩
          clear gd g0 HX HY
          go_wp2_with (go_at_call 46; refine (FN _).out.mono ?_; rintro e w' ⟨rfl, rfl⟩)
          go_ret
          exact ⟨0, 0, rfl, by rw [G1.out.1]; exact v0, by rw [G1.out.2]; exact v0, hG⟩
        | true =>
          rw [hb] at FN
          have g0 : goodB X Y = true := by rw [gd.out, hz, hb]; rfl
          rw [Bool.and_eq_true] at hb
          obtain ⟨f1, n1⟩ := bdd_fin vx.out.2.1 hb.1
          obtain ⟨f2, n2⟩ := bdd_fin vy.out.2.1 hb.2
          obtain ⟨lq, L, hL, eL, lL⟩ := sq_num f1 f2
          have G1 : Hid (mnR (SR l l.length) (SI l l.length) = fo .quo X L ∧ mnI (SR l l.length) (SI l l.length) = fo .quo Y L) := by rw [← HX.out, ← HY.out]; unfold mnR mnI; rw [g0, if_pos rfl, if_pos rfl, eL]; exact ⟨rfl, rfl⟩
          have SQ := fun w => hid' (square_any vx.out vy.out w)
          have nq := hid' (not_nan lq)
          have RT := fun w => hid' (sqrt_any hL w)
          have DV := fun w => hid' (divided_any vx.out vy.out (V.refl (show L < 18446744073709551616 by omega)) w)
          clear hL eL lL lq n1 n2 f1 f2 hb hz gd g0 HX HY
          generalize sqF X Y = S at *
          go_wp2_with (first
            | (go_at_call 46; refine (FN _).out.mono ?_; rintro e w' ⟨rfl, rfl⟩)
            | (go_at_call 44; refine (SQ _).out.mono ?_; rintro e w1 ⟨r, rfl, k1, g1⟩; obtain rfl := k1.num nq.out)
            | (go_at_call 66; refine (RT _).out.mono ?_; rintro e w2 ⟨rfl, rfl⟩)
            | (go_at_call 63; refine (DV _).out.mono ?_; rintro e w3 ⟨r, s, rfl, k2, k3, g3⟩))
          go_ret
          exact ⟨_, _, rfl, by rw [G1.out.1]; exact k2, by rw [G1.out.2]; exact k3, (hG.trans g1).trans g3⟩
end Go.Proofs.Ytmjfphidcnjklaa
