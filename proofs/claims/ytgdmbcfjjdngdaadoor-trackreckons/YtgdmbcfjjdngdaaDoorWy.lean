/- Ways on both sides. -/
import Derived.Test.YtgdmbcfjjdngdaaDoorDr
import Derived.Test.YtgdmbcfjjdngdaaDoorBm
set_option linter.unusedSimpArgs false
set_option linter.unusedVariables false
namespace Go.Proofs.YtgdmbcfjjdngdaaDoor
open Go.RowKit Go.Sort Ieee

theorem add_ok {a b : Nat} (ha : a ≤ 9218868437227405312) (hb : b ≤ 9218868437227405312) : ∃ r, floatBits .add .f64 a b = some r ∧ r ≤ 9218868437227405312 := by
  have hw : double.word false double.infRung ≤ 9218868437227405312 := by rw [dbl_inf]; decide
  show ∃ r, Format.add double a b = some r ∧ _
  unfold Format.add
  rcases read_pos ha with e | ⟨m, i, e⟩ <;> rcases read_pos hb with e' | ⟨n, j, e'⟩ <;> rw [e, e']
  · exact ⟨_, rfl, hw⟩
  · exact ⟨_, rfl, hw⟩
  · exact ⟨_, rfl, hw⟩
  · simp only [Datum.sum, Option.map_some, Format.write]
    refine ⟨_, rfl, ?_⟩
    have ht : ∀ T : Int, 0 ≤ T → (if T = 0 then (false && false) else decide (T < 0)) = false := fun T h => by
      split
      · rfl
      · simp; omega
    have hs : ∀ m u, 0 ≤ signed false m u := fun m u => by unfold signed; rw [if_neg (by decide)]; exact Int.natCast_nonneg _
    rw [ht _ (Int.add_nonneg (hs _ _) (hs _ _))]
    exact near_ok _ _
/-- How long a way is up to its point k. -/
def wy (l : List (Int × Int)) : Nat → Nat
  | 0 => 0
  | k + 1 => fo .add (wy l k) (dsF ((l.getD (k + 1) (0, 0)).1 - (l.getD k (0, 0)).1) ((l.getD (k + 1) (0, 0)).2 - (l.getD k (0, 0)).2))
theorem wy_le (l : List (Int × Int)) : ∀ k, wy l k ≤ 9218868437227405312
  | 0 => by simp [wy]
  | k + 1 => by
    obtain ⟨r, h, hr⟩ := add_ok (wy_le l k) (ds_root ((l.getD (k + 1) (0, 0)).1 - (l.getD k (0, 0)).1) ((l.getD (k + 1) (0, 0)).2 - (l.getD k (0, 0)).2)).2
    show fo .add (wy l k) _ ≤ _
    unfold fo
    rw [h]
    exact hr
theorem wy_run (l : List (Int × Int)) (k : Nat) (W : World) : (binOp .add 29 (.float .f64 (wy l k)) (.float .f64 (dsF ((l.getD (k + 1) (0, 0)).1 - (l.getD k (0, 0)).1) ((l.getD (k + 1) (0, 0)).2 - (l.getD k (0, 0)).2)))).run Tryd.prog W = .ok (.float .f64 (wy l (k + 1))) W := by
  obtain ⟨r, h, hr⟩ := add_ok (wy_le l k) (ds_root ((l.getD (k + 1) (0, 0)).1 - (l.getD k (0, 0)).1) ((l.getD (k + 1) (0, 0)).2 - (l.getD k (0, 0)).2)).2
  rw [run_float_arith W .add 29 .f64 _ _ _ h]
  show _ = Result.ok (Value.float FloatKind.f64 (fo .add (wy l k) _)) W
  unfold fo
  rw [h]
  rfl
/-- Points where a slice reads them. -/
def Way (w : World) (a : Option Addr) (l : List (Int × Int)) : Prop := ∀ k x, l[k]? = some x → ∃ b off, a = some ⟨b, off, none⟩ ∧ w.cell? ⟨b, off + k * 2, none⟩ = some (.int .i32 x.1) ∧ w.cell? ⟨b, off + k * 2 + 1, none⟩ = some (.int .i32 x.2) ∧ in32 x.1 ∧ in32 x.2
theorem Way.below {w w' : World} {a : Option Addr} {l : List (Int × Int)} (h : Way w a l) (g : Below w.heap.size w w') : Way w' a l := fun k x hx => by
  obtain ⟨b, off, e, h0, h1, h2⟩ := h k x hx
  exact ⟨b, off, e, below_cell h0 g, below_cell h1 g, h2⟩
set_option maxRecDepth 20000 in
set_option maxHeartbeats 2000000 in
theorem way_any (a : Option Addr) (c : Nat) (l : List (Int × Int)) (w : World) (h : Way w a l) (hl : l.length ≤ 35184372088832) :
    Calls Tryd.prog 8 #[.slice a l.length c] w fun e w' => e = .returned (.float .f64 (wy l (l.length - 1))) ∧ Gr w w' := by
  have H := hid0 h
  clear h
  generalize hn : l.length = n at *
  have HN := hid0 hn
  have hnI : (n : Int) < 9223372036854775807 := by omega
  clear hn hl
  go_enter Tryd.func8, Tryd.ntmps8
  go_wp2
  go_loopg [3, 4] n (fun kx s i wr => ∃ j k : Nat, s = .float .f64 (wy l j) ∧ i = .int .i64 (k : Int) ∧ Hid (k = j + 1) ∧ Hid (j < n ∨ n = 0 ∧ j = 0) ∧ kx = n - j ∧ Hid (Gr w wr))
  case atStart => exact ⟨0, 1, rfl, rfl, rfl, (by show _ ∨ _; omega), rfl, Gr.refl _⟩
  case round =>
    obtain ⟨j, k, rfl, rfl, hk, hj, rfl, G⟩ := hrel
    have hkn := hk.out
    have hjn := hj.out
    by_cases hlt : k < n
    · have hlt' : (k : Int) < (n : Int) := by omega
      have hlj : (j : Int) < (n : Int) := by omega
      obtain ⟨x, hx⟩ : ∃ x, l[j]? = some x := ⟨_, List.getElem?_eq_getElem (by rw [HN.out]; omega)⟩
      obtain ⟨y, hy⟩ : ∃ y, l[k]? = some y := ⟨_, List.getElem?_eq_getElem (by rw [HN.out]; omega)⟩
      obtain ⟨b1, o1, rfl, e0, e1, ix, iy⟩ := H.out j x hx
      obtain ⟨b2, o2, eb, e2, e3, jx, jy⟩ := H.out k y hy
      cases eb
      have q0 := cell_gr (below_cell e0 G.out.below)
      have q1 := cell_gr (below_cell e1 G.out.below)
      have q2 := cell_gr (below_cell e2 G.out.below)
      have q3 := cell_gr (below_cell e3 G.out.below)
      have DS : Hid (∀ m os, Calls Tryd.prog 18 #[pt x.1 x.2, pt y.1 y.2] (grow (wr.drewN m) os) fun e w' => e = .returned (.float .f64 (dsF (y.1 - x.1) (y.2 - x.2))) ∧ ∃ p : GrownBy, w' = grow (wr.drewN p.n) p.os) := fun m os => calmG (fun W _ => distance_any ix iy jx jy W) m os
      have RN := wy_run l j
      rw [← hkn, show l.getD k (0, 0) = y by simp [List.getD, hy], show l.getD j (0, 0) = x by simp [List.getD, hx]] at RN
      have w1 : wrap64 ((k : Int) - 1) = (j : Int) := by unfold wrap64; omega
      have w2 : wrap64 ((k : Int) + 1) = ((k + 1 : Nat) : Int) := by unfold wrap64; omega
      have v1 : (0 : Int) ≤ (k : Int) - 1 := by omega
      have v2 : (k : Int) - 1 < (n : Int) := by omega
      have v3 : ((k : Int) - 1).toNat = j := by omega
      have G2 := G
      generalize hs2 : wy l k = s2 at *
      have HS2 := hid0 hs2
      clear hs2
      generalize wy l j = s1 at *
      generalize dsF (y.1 - x.1) (y.2 - x.2) = d at *
      clear hkn hjn e0 e1 e2 e3 ix iy jx jy hx hy
      go_upto_region 5 with fail
      refine wp_region_quiet_grown (by kernel_rfl) (by kernel_rfl) ?_
      repeat (go_big_quiet_step (exact DS.out _ _))
      refine wpQuiet_nil ?_
      intro _ hw'
      obtain ⟨⟨nq, osq⟩, hw''⟩ := hw'
      subst hw''
      have gg := hid0 (G2.out.trans ⟨nq, osq, rfl⟩)
      clear q0 q1 q2 q3 DS RN w1 v1 v2 v3 G2
      go_wp2
      go_roundg (n - k)
      case measure => have := hk.out; omega
      case rel => exact ⟨k, k + 1, by rw [HS2.out], by first | rfl | simp, rfl, .inl (by omega), rfl, gg.out⟩
    · have hge : ¬ (k : Int) < (n : Int) := by omega
      have ej : j = n - 1 := by omega
      have EJ := hid0 ej
      clear ej hkn hjn
      go_wp2
      go_ret
      exact ⟨by rw [← EJ.out]; rfl, G.out⟩
set_option maxRecDepth 20000 in
set_option maxHeartbeats 2000000 in
theorem rway_any (a : Option Addr) (c : Nat) (l : List (Int × Int)) (w : World) (h : Way w a l) (hl : l.length ≤ 35184372088832) :
    Calls Tryd.prog 12 #[.slice a l.length c] w fun e w' => e = .returned (.float .f64 (wy l (l.length - 1))) ∧ Gr w w' := by
  have H := hid0 h
  clear h
  generalize hn : l.length = n at *
  have HN := hid0 hn
  have hnI : (n : Int) < 9223372036854775807 := by omega
  clear hn hl
  go_enter Tryd.func12, Tryd.ntmps12
  go_wp2
  go_loopg [3, 4] n (fun kx s i wr => ∃ j : Nat, s = .float .f64 (wy l j) ∧ i = .int .i64 (j : Int) ∧ Hid (j < n ∨ n = 0 ∧ j = 0) ∧ kx = n - j ∧ Hid (Gr w wr))
  case atStart => exact ⟨0, rfl, rfl, (by show _ ∨ _; omega), rfl, Gr.refl _⟩
  case round =>
    obtain ⟨j, rfl, rfl, hj, rfl, G⟩ := hrel
    have hjn := hj.out
    obtain ⟨k, hkn⟩ : ∃ k, k = j + 1 := ⟨_, rfl⟩
    have HK := hid0 hkn
    by_cases hlt : k < n
    · have hlt' : (j : Int) + 1 < (n : Int) := by omega
      have hlj : (j : Int) < (n : Int) := by omega
      obtain ⟨x, hx⟩ : ∃ x, l[j]? = some x := ⟨_, List.getElem?_eq_getElem (by rw [HN.out]; omega)⟩
      obtain ⟨y, hy⟩ : ∃ y, l[k]? = some y := ⟨_, List.getElem?_eq_getElem (by rw [HN.out]; omega)⟩
      obtain ⟨b1, o1, rfl, e0, e1, ix, iy⟩ := H.out j x hx
      obtain ⟨b2, o2, eb, e2, e3, jx, jy⟩ := H.out k y hy
      cases eb
      have q0 := cell_gr (below_cell e0 G.out.below)
      have q1 := cell_gr (below_cell e1 G.out.below)
      have q2 := cell_gr (below_cell e2 G.out.below)
      have q3 := cell_gr (below_cell e3 G.out.below)
      have DS : Hid (∀ m os, Calls Tryd.prog 16 #[pt x.1 x.2, pt y.1 y.2] (grow (wr.drewN m) os) fun e w' => e = .returned (.float .f64 (dsF (y.1 - x.1) (y.2 - x.2))) ∧ ∃ p : GrownBy, w' = grow (wr.drewN p.n) p.os) := fun m os => calmG (fun W _ => rdistance_any ix iy jx jy W) m os
      have RN := wy_run l j
      rw [← hkn, show l.getD k (0, 0) = y by simp [List.getD, hy], show l.getD j (0, 0) = x by simp [List.getD, hx]] at RN
      have w2 : wrap64 ((j : Int) + 1) = (j : Int) + 1 := by unfold wrap64; omega
      have v1 : (0 : Int) ≤ (j : Int) + 1 := by omega
      have v3 : ((j : Int) + 1).toNat = k := by omega
      have G2 := G
      generalize hs2 : wy l k = s2 at *
      have HS2 := hid0 hs2
      clear hs2
      generalize wy l j = s1 at *
      generalize dsF (y.1 - x.1) (y.2 - x.2) = d at *
      clear hkn hjn e0 e1 e2 e3 ix iy jx jy hx hy
      go_upto_region 5 with fail
      refine wp_region_quiet_grown (by kernel_rfl) (by kernel_rfl) ?_
      repeat (go_big_quiet_step (exact DS.out _ _))
      refine wpQuiet_nil ?_
      intro _ hw'
      obtain ⟨⟨nq, osq⟩, hw''⟩ := hw'
      subst hw''
      have gg := hid0 (G2.out.trans ⟨nq, osq, rfl⟩)
      clear q0 q1 q2 q3 DS RN v1 v3 G2
      go_wp2
      go_roundg (n - k)
      case measure => have := HK.out; omega
      case rel => exact ⟨k, by rw [HS2.out], by rw [HK.out]; simp, .inl (by omega), rfl, gg.out⟩
    · have hge : ¬ (j : Int) + 1 < (n : Int) := by omega
      have w2 : wrap64 ((j : Int) + 1) = (j : Int) + 1 := by unfold wrap64; omega
      have ej : j = n - 1 := by omega
      have EJ := hid0 ej
      clear ej hkn hjn
      go_wp2
      go_ret
      exact ⟨by rw [← EJ.out]; rfl, G.out⟩
end Go.Proofs.YtgdmbcfjjdngdaaDoor
