/- Contracts of the reference's Place and way. -/
import Derived.Test.YtmjfphidcnjklaaPl2
set_option linter.unusedSimpArgs false
namespace Go.Proofs.Ytmjfphidcnjklaa
open Go.RowKit Go.Sort Ieee

set_option maxRecDepth 20000 in
set_option maxHeartbeats 1600000 in
theorem rplace_any {a b c d A B C D : Nat} {x y : Int} (ha : V a A) (hb : V b B) (hc : V c C) (hd : V d D) (w : World) {ZR ZI : Nat} (hR : ZR = fo .add (tRe A B (fi x) (fi y)) C) (hI : ZI = fo .add (tIm A B (fi x) (fi y)) D) :
    Calls Try.prog 30 #[mapV a b c d, ptV x y] w fun e w' => e = .returned (.tuple #[ptV (plF ZR ZI).1 (plF ZR ZI).2.1, .int .i64 (plF ZR ZI).2.2]) ∧ Gr w w' := by
  have A1 := fun w => hid' (rapply_any ha hb hc hd (foi_V x) (foi_V y) w)
  have N : Hid (∀ r X w, V r X → Calls Try.prog 62 #[.float .f64 r] w fun e w' => e = .returned (.tuple #[.int .i32 (nrF X).1, .int .i64 (nrF X).2]) ∧ Gr w w') := fun r X w h => rnear_any h w
  rw [← hR, ← hI] at A1
  obtain ⟨kM, kN, kR, g⟩ := three_new w 35 57 57 #[.float .f64 a, .float .f64 b, .float .f64 c, .float .f64 d] #[.int .i32 x, .int .i32 y] #[.int .i32 0, .int .i32 0]
  clear hR hI ha hb hc hd
  have HP : Hid (plF ZR ZI = if (nrF ZR).2 ≠ 0 then (0, 0, (nrF ZR).2) else if (nrF ZI).2 ≠ 0 then (0, 0, (nrF ZI).2) else ((nrF ZR).1, (nrF ZI).1, 0)) := rfl
  have sf := run_store_f
  generalize plF ZR ZI = P3 at *
  generalize nrF = f at *
  go_enter Try.func30, Try.ntmps30
  go_wp2_with fail
  refine (A1 _).out.mono ?_
  rintro e w1 ⟨r, s, rfl, h1, h2, g1⟩
  replace kR := (kR.gr g1).alloc (.cells #[.float .f64 r, .float .f64 s] 33)
  have kZ := Bl.new w1 33 #[.float .f64 r, .float .f64 s]
  replace g := (g.trans g1).alloc (.cells #[.float .f64 r, .float .f64 s] 33)
  clear g1 A1 kM kN
  have N1 := fun w => hid' (N.out r ZR w h1)
  have N2 := fun w => hid' (N.out s ZI w h2)
  dsimp only
  obtain ⟨z0, z1, _, _⟩ := kZ.two
  generalize f ZR = F at *
  generalize f ZI = G at *
  obtain ⟨F1, F2⟩ := F
  obtain ⟨G1, G2⟩ := G
  dsimp only at *
  clear h1 h2 N
  go_wp2_with fail
  refine (N1 _).out.mono ?_
  rintro e w2 ⟨rfl, g2⟩
  replace kR := kR.gr g2
  replace kZ := kZ.gr g2
  replace g := g.trans g2
  clear g2 z0 z1 N1
  dsimp only
  by_cases c1 : F2 = 0
  · subst c1
    obtain ⟨z0, z1, _, _⟩ := kZ.two
    go_wp2_with fail
    refine (N2 _).out.mono ?_
    rintro e w3 ⟨rfl, g3⟩
    obtain ⟨q0, q1, q2, q3⟩ := (kR.gr g3).two
    replace g := g.trans g3
    clear g3 z0 z1 N2 kZ kR
    dsimp only
    by_cases c2 : G2 = 0
    · subst c2
      go_wp2
      refine bodyPost_ret (v := .tuple #[ptV F1 G1, .int .i64 0]) (by simp [results, Try.results30, go_sem, q0, q1]) rfl ⟨by rw [show P3 = (F1, G1, 0) from HP.out], ?_⟩
      exact (g.setCell (by simp only []; omega) _).setCell (by simp only []; omega) _
    · have c2' : (G2 == 0) = false := by simpa using c2
      go_wp2
      refine bodyPost_ret (v := .tuple #[ptV 0 0, .int .i64 G2]) (by simp [results, Try.results30, go_sem, q0, q1]) rfl ⟨by rw [show P3 = (0, 0, G2) from HP.out.trans (by rw [if_neg (by decide), if_pos c2])], ?_⟩
      exact (g.setCell (by simp only []; omega) _).setCell (by simp only []; omega) _
  · have c1' : (F2 == 0) = false := by simpa using c1
    obtain ⟨q0, q1, q2, q3⟩ := kR.two
    go_wp2
    refine bodyPost_ret (v := .tuple #[ptV 0 0, .int .i64 F2]) (by simp [results, Try.results30, go_sem, q0, q1]) rfl ⟨by rw [show P3 = (0, 0, F2) from HP.out.trans (by rw [if_pos c1])], ?_⟩
    exact (g.setCell (by simp only []; omega) _).setCell (by simp only []; omega) _
set_option maxRecDepth 20000 in
set_option maxHeartbeats 1600000 in
theorem rway_any {px py qx qy : Int} (h1 : in32 px) (h2 : in32 py) (h3 : in32 qx) (h4 : in32 qy) (w : World) :
    Calls Try.prog 60 #[ptV px py, ptV qx qy] w fun e w' => e = .returned (numV (fi (qx - px)) (fi (qy - py))) ∧ Gr w w' := by
  have e1 := wrap64_in h1
  have e2 := wrap64_in h2
  have e3 := wrap64_in h3
  have e4 := wrap64_in h4
  have e5 := wrap64_dif h3 h1
  have e6 := wrap64_dif h4 h2
  have sf := run_store_f
  clear h1 h2 h3 h4
  go_enter Try.func60, Try.ntmps60
  go_wp2
  refine bodyPost_ret (v := numV (fi (qx - px)) (fi (qy - py))) (by simp [results, Try.results60, go_sem]) rfl ⟨rfl, ?_⟩
  repeat (first | exact Gr.refl _ | refine Gr.setCell ?_ (by simp only []; omega) _ | refine Gr.drewN ?_ _ | refine Gr.alloc ?_ _)
end Go.Proofs.Ytmjfphidcnjklaa
