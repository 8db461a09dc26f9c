/- Contract of the law's own moves. -/
import Derived.Test.YtagabccaipfjeaaSegV
import Derived.Test.YtagabccaipfjeaaLv
namespace Go.Proofs.Ytagabccaipfjeaa
open Go.RowKit Go.Sort

def movA (p : P2) (m : Bool) (k : Nat) (dx dy : Int) : P2 × Bool := if ((-2147483648 ≤ dx ∧ dx ≤ 2147483648) ∧ (-2147483648 ≤ dy ∧ dy ≤ 2147483648)) ∧ ((-1073741823 ≤ (movP m k dx dy p).1 ∧ (movP m k dx dy p).1 ≤ 1073741823) ∧ (-1073741823 ≤ (movP m k dx dy p).2 ∧ (movP m k dx dy p).2 ≤ 1073741823)) then (movP m k dx dy p, true) else (p, false)
set_option maxHeartbeats 2000000 in
theorem moved_any (p : P2) (m : Bool) (k : Nat) (dx dy : Int) (w : World) (hp : ins p) (hk : k ≤ 3) :
    Calls Try.prog 19 #[ptv p, .bool m, .int .i64 (k : Int), .int .i64 dx, .int .i64 dy] w fun e w' => e = .returned (.tuple #[ptv (movA p m k dx dy).1, .bool (movA p m k dx dy).2]) ∧ Gr w w' := by
  obtain ⟨px, py⟩ := p
  obtain ⟨i1, i2⟩ := hp
  simp only at i1 i2
  show Calls Try.prog 19 #[pt px py, .bool m, .int .i64 (k : Int), .int .i64 dx, .int .i64 dy] w _
  cases m with
  | false =>
    have hw : wrap64 px = px := w64_in i1
    have hw2 : wrap64 py = py := w64_in i2
    have hwn : wrap64 (-px) = -px := by unfold wrap64 in32 at *; omega
    have HR : ∀ j, (-2147483648 ≤ (rotK j (px, py)).1 ∧ (rotK j (px, py)).1 ≤ 2147483648) ∧ (-2147483648 ≤ (rotK j (px, py)).2 ∧ (rotK j (px, py)).2 ≤ 2147483648) := by
      intro j
      induction j with
      | zero => unfold rotK in32 at *; simp only []; omega
      | succ j ih => unfold rotK rotP; simp only []; omega
    go_enter Try.func19, Try.ntmps19
    go_wp2
    go_loop [12, 13, 14] (fun vx vy vi => ∃ j : Nat, j ≤ k ∧ vi = .int .i64 j ∧ vx = .int .i64 (rotK j (px, py)).1 ∧ vy = .int .i64 (rotK j (px, py)).2) (fun _ _ vi => k - (intOf vi).toNat)
    case atStart => exact ⟨0, by omega, rfl, by first | rfl | (rw [hw]; rfl) | (rw [hw, hwn]; rfl) | (rw [hwn]; rfl), by first | rfl | (rw [hw2]; rfl)⟩
    case round =>
      obtain ⟨j, hj, rfl, rfl, rfl⟩ := hrel
      have hb := HR j
      by_cases hlt : j < k
      · have r1 : Hid ((rotK (j + 1) (px, py)).1 = -(rotK j (px, py)).2) := rfl
        have r2 : Hid ((rotK (j + 1) (px, py)).2 = (rotK j (px, py)).1) := rfl
        clear HR
        generalize (rotK j (px, py)).1 = X at *
        generalize (rotK j (px, py)).2 = Y at *
        have e1 : wrap64 (-Y) = -Y := by unfold wrap64; omega
        go_wp2
        go_round
        case rel => exact ⟨j + 1, by omega, by go_num, by rw [r1.out], by rw [r2.out]⟩
        case measure => simp [intOf]; omega
      · have hjk : j = k := by omega
        subst hjk
        have HX : (rotK j (mirP false (px, py))).1 = (rotK j (px, py)).1 := rfl
        have HY : (rotK j (mirP false (px, py))).2 = (rotK j (px, py)).2 := rfl
        clear HR
        generalize (rotK j (px, py)).1 = X at *
        generalize (rotK j (px, py)).2 = Y at *
        by_cases d1 : 2147483648 < dx
        · have hq : Hid (movA (px, py) false j dx dy = ((px, py), false)) := by unfold Hid movA movP; rw [if_neg (by simp only []; omega)]
          clear HX HY
          go_wp2
          refine bodyPost_ret (v := .tuple #[pt px py, .bool false]) (by simp [results, Try.results19, go_sem]) rfl ⟨by rw [hq.out], ?_⟩
          exact (((Gr.refl _).alloc _).alloc _)
        · by_cases d2 : dx < -2147483648
          · have hq : Hid (movA (px, py) false j dx dy = ((px, py), false)) := by unfold Hid movA movP; rw [if_neg (by simp only []; omega)]
            clear HX HY
            go_wp2
            refine bodyPost_ret (v := .tuple #[pt px py, .bool false]) (by simp [results, Try.results19, go_sem]) rfl ⟨by rw [hq.out], ?_⟩
            exact (((Gr.refl _).alloc _).alloc _)
          · by_cases d3 : 2147483648 < dy
            · have hq : Hid (movA (px, py) false j dx dy = ((px, py), false)) := by unfold Hid movA movP; rw [if_neg (by simp only []; omega)]
              clear HX HY
              go_wp2
              refine bodyPost_ret (v := .tuple #[pt px py, .bool false]) (by simp [results, Try.results19, go_sem]) rfl ⟨by rw [hq.out], ?_⟩
              exact (((Gr.refl _).alloc _).alloc _)
            · by_cases d4 : dy < -2147483648
              · have hq : Hid (movA (px, py) false j dx dy = ((px, py), false)) := by unfold Hid movA movP; rw [if_neg (by simp only []; omega)]
                clear HX HY
                go_wp2
                refine bodyPost_ret (v := .tuple #[pt px py, .bool false]) (by simp [results, Try.results19, go_sem]) rfl ⟨by rw [hq.out], ?_⟩
                exact (((Gr.refl _).alloc _).alloc _)
              · have e1 : wrap64 (X + dx) = X + dx := by unfold wrap64; omega
                have e2 : wrap64 (Y + dy) = Y + dy := by unfold wrap64; omega
                by_cases g1 : X + dx < -1073741823
                · have hq : Hid (movA (px, py) false j dx dy = ((px, py), false)) := by unfold Hid movA movP; rw [if_neg (by simp only []; omega)]
                  clear HX HY
                  go_wp2
                  refine bodyPost_ret (v := .tuple #[pt px py, .bool false]) (by simp [results, Try.results19, go_sem]) rfl ⟨by rw [hq.out], ?_⟩
                  exact (((Gr.refl _).alloc _).alloc _)
                · by_cases g2 : 1073741823 < X + dx
                  · have hq : Hid (movA (px, py) false j dx dy = ((px, py), false)) := by unfold Hid movA movP; rw [if_neg (by simp only []; omega)]
                    clear HX HY
                    go_wp2
                    refine bodyPost_ret (v := .tuple #[pt px py, .bool false]) (by simp [results, Try.results19, go_sem]) rfl ⟨by rw [hq.out], ?_⟩
                    exact (((Gr.refl _).alloc _).alloc _)
                  · by_cases g3 : Y + dy < -1073741823
                    · have hq : Hid (movA (px, py) false j dx dy = ((px, py), false)) := by unfold Hid movA movP; rw [if_neg (by simp only []; omega)]
                      clear HX HY
                      go_wp2
                      refine bodyPost_ret (v := .tuple #[pt px py, .bool false]) (by simp [results, Try.results19, go_sem]) rfl ⟨by rw [hq.out], ?_⟩
                      exact (((Gr.refl _).alloc _).alloc _)
                    · by_cases g4 : 1073741823 < Y + dy
                      · have hq : Hid (movA (px, py) false j dx dy = ((px, py), false)) := by unfold Hid movA movP; rw [if_neg (by simp only []; omega)]
                        clear HX HY
                        go_wp2
                        refine bodyPost_ret (v := .tuple #[pt px py, .bool false]) (by simp [results, Try.results19, go_sem]) rfl ⟨by rw [hq.out], ?_⟩
                        exact (((Gr.refl _).alloc _).alloc _)
                      · have hq : Hid (movA (px, py) false j dx dy = ((X + dx, Y + dy), true)) := by
                          unfold Hid movA; rw [if_pos (by unfold movP; simp only []; omega)]; unfold movP; rw [HX, HY]
                        have c1 : wrap32 (X + dx) = X + dx := by unfold wrap32; omega
                        have c2 : wrap32 (Y + dy) = Y + dy := by unfold wrap32; omega
                        clear HX HY
                        go_wp2
                        refine bodyPost_ret (v := .tuple #[pt (X + dx) (Y + dy), .bool true]) (by simp [results, Try.results19, go_sem]) rfl ⟨by rw [hq.out], ?_⟩
                        exact (((Gr.refl _).alloc _).alloc _)
  | true =>
    have hw : wrap64 px = px := w64_in i1
    have hw2 : wrap64 py = py := w64_in i2
    have hwn : wrap64 (-px) = -px := by unfold wrap64 in32 at *; omega
    have HR : ∀ j, (-2147483648 ≤ (rotK j (-px, py)).1 ∧ (rotK j (-px, py)).1 ≤ 2147483648) ∧ (-2147483648 ≤ (rotK j (-px, py)).2 ∧ (rotK j (-px, py)).2 ≤ 2147483648) := by
      intro j
      induction j with
      | zero => unfold rotK in32 at *; simp only []; omega
      | succ j ih => unfold rotK rotP; simp only []; omega
    go_enter Try.func19, Try.ntmps19
    go_wp2
    go_loop [12, 13, 14] (fun vx vy vi => ∃ j : Nat, j ≤ k ∧ vi = .int .i64 j ∧ vx = .int .i64 (rotK j (-px, py)).1 ∧ vy = .int .i64 (rotK j (-px, py)).2) (fun _ _ vi => k - (intOf vi).toNat)
    case atStart => exact ⟨0, by omega, rfl, by first | rfl | (rw [hw]; rfl) | (rw [hw, hwn]; rfl) | (rw [hwn]; rfl), by first | rfl | (rw [hw2]; rfl)⟩
    case round =>
      obtain ⟨j, hj, rfl, rfl, rfl⟩ := hrel
      have hb := HR j
      by_cases hlt : j < k
      · have r1 : Hid ((rotK (j + 1) (-px, py)).1 = -(rotK j (-px, py)).2) := rfl
        have r2 : Hid ((rotK (j + 1) (-px, py)).2 = (rotK j (-px, py)).1) := rfl
        clear HR
        generalize (rotK j (-px, py)).1 = X at *
        generalize (rotK j (-px, py)).2 = Y at *
        have e1 : wrap64 (-Y) = -Y := by unfold wrap64; omega
        go_wp2
        go_round
        case rel => exact ⟨j + 1, by omega, by go_num, by rw [r1.out], by rw [r2.out]⟩
        case measure => simp [intOf]; omega
      · have hjk : j = k := by omega
        subst hjk
        have HX : (rotK j (mirP true (px, py))).1 = (rotK j (-px, py)).1 := rfl
        have HY : (rotK j (mirP true (px, py))).2 = (rotK j (-px, py)).2 := rfl
        clear HR
        generalize (rotK j (-px, py)).1 = X at *
        generalize (rotK j (-px, py)).2 = Y at *
        by_cases d1 : 2147483648 < dx
        · have hq : Hid (movA (px, py) true j dx dy = ((px, py), false)) := by unfold Hid movA movP; rw [if_neg (by simp only []; omega)]
          clear HX HY
          go_wp2
          refine bodyPost_ret (v := .tuple #[pt px py, .bool false]) (by simp [results, Try.results19, go_sem]) rfl ⟨by rw [hq.out], ?_⟩
          exact (((Gr.refl _).alloc _).alloc _)
        · by_cases d2 : dx < -2147483648
          · have hq : Hid (movA (px, py) true j dx dy = ((px, py), false)) := by unfold Hid movA movP; rw [if_neg (by simp only []; omega)]
            clear HX HY
            go_wp2
            refine bodyPost_ret (v := .tuple #[pt px py, .bool false]) (by simp [results, Try.results19, go_sem]) rfl ⟨by rw [hq.out], ?_⟩
            exact (((Gr.refl _).alloc _).alloc _)
          · by_cases d3 : 2147483648 < dy
            · have hq : Hid (movA (px, py) true j dx dy = ((px, py), false)) := by unfold Hid movA movP; rw [if_neg (by simp only []; omega)]
              clear HX HY
              go_wp2
              refine bodyPost_ret (v := .tuple #[pt px py, .bool false]) (by simp [results, Try.results19, go_sem]) rfl ⟨by rw [hq.out], ?_⟩
              exact (((Gr.refl _).alloc _).alloc _)
            · by_cases d4 : dy < -2147483648
              · have hq : Hid (movA (px, py) true j dx dy = ((px, py), false)) := by unfold Hid movA movP; rw [if_neg (by simp only []; omega)]
                clear HX HY
                go_wp2
                refine bodyPost_ret (v := .tuple #[pt px py, .bool false]) (by simp [results, Try.results19, go_sem]) rfl ⟨by rw [hq.out], ?_⟩
                exact (((Gr.refl _).alloc _).alloc _)
              · have e1 : wrap64 (X + dx) = X + dx := by unfold wrap64; omega
                have e2 : wrap64 (Y + dy) = Y + dy := by unfold wrap64; omega
                by_cases g1 : X + dx < -1073741823
                · have hq : Hid (movA (px, py) true j dx dy = ((px, py), false)) := by unfold Hid movA movP; rw [if_neg (by simp only []; omega)]
                  clear HX HY
                  go_wp2
                  refine bodyPost_ret (v := .tuple #[pt px py, .bool false]) (by simp [results, Try.results19, go_sem]) rfl ⟨by rw [hq.out], ?_⟩
                  exact (((Gr.refl _).alloc _).alloc _)
                · by_cases g2 : 1073741823 < X + dx
                  · have hq : Hid (movA (px, py) true j dx dy = ((px, py), false)) := by unfold Hid movA movP; rw [if_neg (by simp only []; omega)]
                    clear HX HY
                    go_wp2
                    refine bodyPost_ret (v := .tuple #[pt px py, .bool false]) (by simp [results, Try.results19, go_sem]) rfl ⟨by rw [hq.out], ?_⟩
                    exact (((Gr.refl _).alloc _).alloc _)
                  · by_cases g3 : Y + dy < -1073741823
                    · have hq : Hid (movA (px, py) true j dx dy = ((px, py), false)) := by unfold Hid movA movP; rw [if_neg (by simp only []; omega)]
                      clear HX HY
                      go_wp2
                      refine bodyPost_ret (v := .tuple #[pt px py, .bool false]) (by simp [results, Try.results19, go_sem]) rfl ⟨by rw [hq.out], ?_⟩
                      exact (((Gr.refl _).alloc _).alloc _)
                    · by_cases g4 : 1073741823 < Y + dy
                      · have hq : Hid (movA (px, py) true j dx dy = ((px, py), false)) := by unfold Hid movA movP; rw [if_neg (by simp only []; omega)]
                        clear HX HY
                        go_wp2
                        refine bodyPost_ret (v := .tuple #[pt px py, .bool false]) (by simp [results, Try.results19, go_sem]) rfl ⟨by rw [hq.out], ?_⟩
                        exact (((Gr.refl _).alloc _).alloc _)
                      · have hq : Hid (movA (px, py) true j dx dy = ((X + dx, Y + dy), true)) := by
                          unfold Hid movA; rw [if_pos (by unfold movP; simp only []; omega)]; unfold movP; rw [HX, HY]
                        have c1 : wrap32 (X + dx) = X + dx := by unfold wrap32; omega
                        have c2 : wrap32 (Y + dy) = Y + dy := by unfold wrap32; omega
                        clear HX HY
                        go_wp2
                        refine bodyPost_ret (v := .tuple #[pt (X + dx) (Y + dy), .bool true]) (by simp [results, Try.results19, go_sem]) rfl ⟨by rw [hq.out], ?_⟩
                        exact (((Gr.refl _).alloc _).alloc _)
end Go.Proofs.Ytagabccaipfjeaa
