/- Contracts of number, place and Place; of the law's closed call. -/
import Derived.Test.YtmjfphidcnjklaaG1
set_option linter.unusedSimpArgs false
namespace Go.Proofs.Ytmjfphidcnjklaa
open Go.RowKit Go.Sort Ieee

abbrev ptV (x y : Int) : Value := .agg #[.int .i32 x, .int .i32 y]
def in32 (a : Int) : Prop := -2147483648 ≤ a ∧ a ≤ 2147483647
theorem w64_in {a : Int} (h : in32 a) : IntKind.i64.wrap a = a := by
  unfold in32 at h
  simp [IntKind.wrap, IntKind.signed, IntKind.bits]
  omega
theorem wrap64_in {a : Int} (h : in32 a) : wrap64 a = a := by unfold in32 at h; unfold wrap64; omega
theorem foi_V (n : Int) : V (floatOfInt .f64 n) (floatOfInt .f64 n) := V.refl (by have := floatOfInt_wf .f64 n; simpa [Lit.wf] using this)
theorem number_any (m n : Int) (w : World) : Calls Try.prog 57 #[.int .i64 m, .int .i64 n] w fun e w' => e = .returned (.complex .f64 (floatOfInt .f64 m) (floatOfInt .f64 n)) ∧ w' = w := by
  go_enter Try.func57, Try.ntmps57
  go_wp2
  go_ret
  exact ⟨rfl, rfl⟩
theorem place_any {x y : Int} (hx : in32 x) (hy : in32 y) (w : World) : Calls Try.prog 59 #[ptV x y] w fun e w' => e = .returned (.complex .f64 (floatOfInt .f64 x) (floatOfInt .f64 y)) ∧ Gr w w' := by
  have e1 := wrap64_in hx
  have e2 := wrap64_in hy
  have e3 := w64_in hx
  have e4 := w64_in hy
  clear hx hy
  go_enter Try.func59, Try.ntmps59
  go_wp2_with (go_at_call 57; refine (number_any _ _ _).mono ?_; rintro e w' ⟨rfl, rfl⟩)
  go_ret
  exact ⟨rfl, (Gr.refl _).alloc _⟩
/-- What Place tells of where the point comes to. -/
def plF (ZR ZI : Nat) : Int × Int × Int := if (nrF ZR).2 ≠ 0 then (0, 0, (nrF ZR).2) else if (nrF ZI).2 ≠ 0 then (0, 0, (nrF ZI).2) else ((nrF ZR).1, (nrF ZI).1, 0)
theorem run_store_i (a : Addr) (k : IntKind) (x : Int) (m : Mode) (w : World) : (store a (.int k x) m).run Try.prog w = stored Try.prog w a (.int k x) m := run_store Try.prog w a _ m rfl
set_option maxRecDepth 20000 in
set_option maxHeartbeats 1600000 in
theorem place29_any {a b c d A B C D : Nat} {x y : Int} (ha : V a A) (hb : V b B) (hc : V c C) (hd : V d D) (hx : in32 x) (hy : in32 y) (w : World) {ZR ZI : Nat} (hR : ZR = fo .add (tRe A B (floatOfInt .f64 x) (floatOfInt .f64 y)) C) (hI : ZI = fo .add (tIm A B (floatOfInt .f64 x) (floatOfInt .f64 y)) D) :
    Calls Try.prog 29 #[simV a b c d, ptV x y] w fun e w' => e = .returned (.tuple #[ptV (plF ZR ZI).1 (plF ZR ZI).2.1, .int .i64 (plF ZR ZI).2.2]) ∧ Gr w w' := by
  have P := fun w => hid' (place_any hx hy w)
  have A1 := fun w => hid' (apply_any ha hb hc hd (foi_V x) (foi_V y) w)
  have N : Hid (∀ r X w, V r X → Calls Try.prog 61 #[.float .f64 r] w fun e w' => e = .returned (.tuple #[.int .i32 (nrF X).1, .int .i64 (nrF X).2]) ∧ w' = w) := fun r X w h => nearest_any h w
  rw [← hR, ← hI] at A1
  obtain ⟨kM, kN, kR, g⟩ := three_new w 28 57 57 #[.complex .f64 a b, .complex .f64 c d] #[.int .i32 x, .int .i32 y] #[.int .i32 0, .int .i32 0]
  replace g := hid' g
  clear hR hI ha hb hc hd hx hy
  have HP : Hid (plF ZR ZI = if (nrF ZR).2 ≠ 0 then (0, 0, (nrF ZR).2) else if (nrF ZI).2 ≠ 0 then (0, 0, (nrF ZI).2) else ((nrF ZR).1, (nrF ZI).1, 0)) := rfl
  generalize plF ZR ZI = P3 at *
  generalize nrF = f at *
  go_enter Try.func29, Try.ntmps29
  go_wp2_with fail
  generalize ((w.alloc (.cells #[.complex .f64 a b, .complex .f64 c d] 28)).alloc (.cells #[.int .i32 x, .int .i32 y] 57)).alloc (.cells #[.int .i32 0, .int .i32 0] 57) = W1 at *
  obtain ⟨m0, m1, _, _⟩ := kM.two
  obtain ⟨n0, n1, _, _⟩ := kN.two
  go_region_held3 (S4 ⟨w.heap.size, 0, none⟩ ⟨w.heap.size, 1, none⟩ ⟨w.heap.size + 1, 0, none⟩ ⟨w.heap.size + 1, 1, none⟩ (.complex .f64 a b) (.complex .f64 c d) (.int .i32 x) (.int .i32 y) w)
    (first
      | exact ⟨m0, m1, n0, n1, g.out.drew⟩
      | exact S4.call (by assumption) (by assumption))
    (first
      | (go_at_call 59; refine (P _).out.mono ?_; rintro e w1 ⟨rfl, g1⟩; replace kR := (kR.drewN 1).gr g1)
      | (go_at_call 13; refine (A1 _).out.mono ?_; rintro e w2 ⟨r, s, rfl, h1, h2, g2⟩; replace kR := kR.gr g2))
  rename_i hH
  have gg := hid' hH.2.2.2.2
  obtain ⟨q0, q1, q2, q3⟩ := kR.two
  clear hH kM kN m0 m1 n0 n1 g P A1 g1 g2
  have N1 := fun w => hid' (N.out r ZR w h1)
  have N2 := fun w => hid' (N.out s ZI w h2)
  generalize f ZR = F at *
  generalize f ZI = G at *
  obtain ⟨F1, F2⟩ := F
  obtain ⟨G1, G2⟩ := G
  dsimp only at *
  clear h1 h2 N
  by_cases c1 : F2 = 0
  · subst c1
    by_cases c2 : G2 = 0
    · subst c2
      go_wp2_with (first
        | (go_at_call_of 61 r; refine (N1 _).out.mono ?_; rintro e w3 ⟨rfl, rfl⟩)
        | (go_at_call_of 61 s; refine (N2 _).out.mono ?_; rintro e w3 ⟨rfl, rfl⟩))
      refine bodyPost_ret (v := .tuple #[ptV F1 G1, .int .i64 0]) (by simp [results, Try.results29, go_sem, q0, q1]) rfl ⟨by rw [show P3 = (F1, G1, 0) from HP.out], ?_⟩
      exact (gg.out.setCell (by simp only []; omega) _).setCell (by simp only []; omega) _
    · have c2' : (G2 == 0) = false := by simpa using c2
      go_wp2_with (first
        | (go_at_call_of 61 r; refine (N1 _).out.mono ?_; rintro e w3 ⟨rfl, rfl⟩)
        | (go_at_call_of 61 s; refine (N2 _).out.mono ?_; rintro e w3 ⟨rfl, rfl⟩))
      refine bodyPost_ret (v := .tuple #[ptV 0 0, .int .i64 G2]) (by simp [results, Try.results29, go_sem, q0, q1]) rfl ⟨by rw [show P3 = (0, 0, G2) from HP.out.trans (by rw [if_neg (by decide), if_pos c2])], ?_⟩
      exact (gg.out.setCell (by simp only []; omega) _).setCell (by simp only []; omega) _
  · have c1' : (F2 == 0) = false := by simpa using c1
    go_wp2_with (first
      | (go_at_call_of 61 r; refine (N1 _).out.mono ?_; rintro e w3 ⟨rfl, rfl⟩)
      | (go_at_call_of 61 s; refine (N2 _).out.mono ?_; rintro e w3 ⟨rfl, rfl⟩))
    refine bodyPost_ret (v := .tuple #[ptV 0 0, .int .i64 F2]) (by simp [results, Try.results29, go_sem, q0, q1]) rfl ⟨by rw [show P3 = (0, 0, F2) from HP.out.trans (by rw [if_pos c1])], ?_⟩
    exact (gg.out.setCell (by simp only []; omega) _).setCell (by simp only []; omega) _
theorem at_any (x y : Int) (w : World) : Calls Try.prog 56 #[.int .i32 x, .int .i32 y] w fun e w' => e = .returned (ptV x y) ∧ Gr w w' := by
  have si := run_store_i
  go_enter Try.func56, Try.ntmps56
  go_wp2
  refine bodyPost_ret (v := ptV x y) (by simp [results, Try.results56, go_sem]) rfl ⟨rfl, ?_⟩
  exact (Gr.refl w).alloc _
end Go.Proofs.Ytmjfphidcnjklaa
