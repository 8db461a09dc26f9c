/- The reference's Square. -/
import Derived.Test.YtmoddfikhipagaaSv
set_option linter.unusedSimpArgs false
set_option linter.unusedVariables false
namespace Go.Proofs.Ytmoddfikhipagaa
open Go.RowKit Go.Sort

/-- What the loop over the two coordinates holds. -/
def SqAt (w : World) (l0 l1 h0 h1 : Int) (k : Nat) (wr : World) : Prop :=
  (∃ a b c d : Int, Bk wr (w.heap.size + 2) 60 [.int .i64 a, .int .i64 b] ∧ Bk wr (w.heap.size + 3) 60 [.int .i64 c, .int .i64 d] ∧
    (if 0 < k then a = clL l0 ∧ c = clH h0 ∧ a ≤ c else a = l0 ∧ c = h0) ∧ (if 1 < k then b = clL l1 ∧ d = clH h1 ∧ b ≤ d else b = l1 ∧ d = h1)) ∧
  Bk wr (w.heap.size + 1) 25 [.int .i32 0, .int .i32 0, .int .i32 0, .int .i32 0] ∧ Gr w wr
set_option maxRecDepth 20000 in
set_option maxHeartbeats 8000000 in
theorem rsquare_raw (x y s l0 l1 h0 h1 : Int) (V : Value) (ok : Bool) (w : World) (x64 : wrap64 x = x) (y64 : wrap64 y = y)
    (S1 : Hid (∀ w, Calls Try.prog 24 #[.int .i64 s] w fun e w' => e = .returned (.bool true) ∧ w' = w))
    (e1 : wrap64 (x * s) = l0) (e2 : wrap64 (y * s) = l1) (e3 : wrap64 (l0 + s) = l0 + s) (e4 : wrap64 (l1 + s) = l1 + s) (e5 : wrap64 (l0 + s - 1) = h0) (e6 : wrap64 (l1 + s - 1) = h1)
    (hyes : clL l0 ≤ clH h0 → clL l1 ≤ clH h1 → ok = true ∧ V = bx (clL l0) (clL l1) (clH h0) (clH h1)) (hno : ¬ (clL l0 ≤ clH h0 ∧ clL l1 ≤ clH h1) → ok = false ∧ V = bx 0 0 0 0) :
    Calls Try.prog 10 #[pt x y, .int .i64 s] w fun e w' => e = .returned (.tuple #[V, .bool ok]) ∧ Gr w w' := by
  have HY := hid0 hyes
  have HN := hid0 hno
  clear hyes hno
  have k0 := ((Bk.new w 26 [.int .i32 x, .int .i32 y]).alloc (.cells #[.int .i32 0, .int .i32 0, .int .i32 0, .int .i32 0] 25))
  have k1 : Bk ((w.alloc (.cells #[.int .i32 x, .int .i32 y] 26)).alloc (.cells #[.int .i32 0, .int .i32 0, .int .i32 0, .int .i32 0] 25)) (w.heap.size + 1) 25 [.int .i32 0, .int .i32 0, .int .i32 0, .int .i32 0] := by
    have := Bk.new (w.alloc (.cells #[.int .i32 x, .int .i32 y] 26)) 25 [.int .i32 0, .int .i32 0, .int .i32 0, .int .i32 0]; rwa [World.size_alloc] at this
  have gW : Gr w ((w.alloc (.cells #[.int .i32 x, .int .i32 y] 26)).alloc (.cells #[.int .i32 0, .int .i32 0, .int .i32 0, .int .i32 0] 25)) := ((Gr.refl _).alloc _).alloc _
  have hsz : ((w.alloc (.cells #[.int .i32 x, .int .i32 y] 26)).alloc (.cells #[.int .i32 0, .int .i32 0, .int .i32 0, .int .i32 0] 25)).heap.size = w.heap.size + 2 := by simp
  go_enter Try.func10, Try.ntmps10
  go_upto_region 1 with fail
  generalize (w.alloc (.cells #[.int .i32 x, .int .i32 y] 26)).alloc (.cells #[.int .i32 0, .int .i32 0, .int .i32 0, .int .i32 0] 25) = W at *
  obtain ⟨p0, p1⟩ := k0.two
  go_upto_region 4 with (go_at_call 24; refine (S1.out _).mono ?_; rintro e w1 ⟨rfl, rfl⟩; clear S1)
  have k6 := Bk.new w1 60 [.int .i64 l0, .int .i64 l1]
  rw [hsz] at k6
  have g6 : Gr w1 (w1.alloc (.cells #[.int .i64 l0, .int .i64 l1] 60)) := (Gr.refl _).alloc _
  have hs6 : (w1.alloc (.cells #[.int .i64 l0, .int .i64 l1] 60)).heap.size = w.heap.size + 3 := by simp [hsz]
  replace k1 := k1.gr g6
  replace gW := gW.trans g6
  clear p0 p1 k0
  generalize w1.alloc (.cells #[.int .i64 l0, .int .i64 l1] 60) = W2 at *
  obtain ⟨p0, p1⟩ := k6.two
  go_upto_region 5 with fail
  have k7 := Bk.new W2 60 [.int .i64 h0, .int .i64 h1]
  rw [hs6] at k7
  have g7 : Gr W2 (W2.alloc (.cells #[.int .i64 h0, .int .i64 h1] 60)) := (Gr.refl _).alloc _
  replace k1 := k1.gr g7
  replace k6 := k6.gr g7
  replace gW := gW.trans g7
  clear p0 p1 hs6 hsz
  generalize W2.alloc (.cells #[.int .i64 h0, .int .i64 h1] 60) = W3 at *
  go_wp2
  go_loopw [8] (fun i wr => ∃ k : Nat, k ≤ 2 ∧ i = .int .i64 k ∧ SqAt w l0 l1 h0 h1 k wr) (fun i _ => 2 - (intOf i).toNat)
  case atStart => exact ⟨0, by omega, rfl, ⟨l0, l1, h0, h1, k6, k7, by simp, by simp⟩, k1, gW⟩
  case round =>
    clear k1 k6 k7 gW
    obtain ⟨k, hk, rfl, ⟨a, b, c, d, k6, k7, hac, hbd⟩, k1, gW⟩ := hrel
    have n1 : w.heap.size + 3 ≠ w.heap.size + 2 := by omega
    have n2 : w.heap.size + 2 ≠ w.heap.size + 3 := by omega
    have n3 : w.heap.size + 1 ≠ w.heap.size + 2 := by omega
    have n4 : w.heap.size + 1 ≠ w.heap.size + 3 := by omega
    have k2 : k = 0 ∨ k = 1 ∨ k = 2 := by omega
    rcases k2 with rfl | rfl | rfl
    · simp only [Nat.lt_irrefl, if_false, show ¬ 1 < 0 by omega] at hac hbd
      have HO := hid0 hbd
      obtain ⟨rfl, rfl⟩ := hac
      clear hbd
      obtain ⟨p0, p1⟩ := k6.two
      obtain ⟨q0, q1⟩ := k7.two
      have z0 := k6.frozen 0
      have z1 := k7.frozen 0
      by_cases hl : a < -1073741823
      · by_cases hh : 1073741823 < c
        · go_upto_region 12 with fail
          have hA : clL a = (-1073741823) := by unfold clL; rw [if_pos hl]
          have hC : clH c = 1073741823 := by unfold clH; rw [if_pos hh]
          have m6 : Bk ((wr.setCell ⟨w.heap.size + 2, 0, none⟩ (.int .i64 (-1073741823))).setCell ⟨w.heap.size + 3, 0, none⟩ (.int .i64 1073741823)) (w.heap.size + 2) 60 [.int .i64 (-1073741823), .int .i64 b] := ((k6.set 0 (.int .i64 (-1073741823))).other (a := ⟨w.heap.size + 3, 0, none⟩) n2 (.int .i64 1073741823))
          have m7 : Bk ((wr.setCell ⟨w.heap.size + 2, 0, none⟩ (.int .i64 (-1073741823))).setCell ⟨w.heap.size + 3, 0, none⟩ (.int .i64 1073741823)) (w.heap.size + 3) 60 [.int .i64 1073741823, .int .i64 d] := ((k7.other (a := ⟨w.heap.size + 2, 0, none⟩) n1 (.int .i64 (-1073741823))).set 0 (.int .i64 1073741823))
          have m1 : Bk ((wr.setCell ⟨w.heap.size + 2, 0, none⟩ (.int .i64 (-1073741823))).setCell ⟨w.heap.size + 3, 0, none⟩ (.int .i64 1073741823)) (w.heap.size + 1) 25 [.int .i32 0, .int .i32 0, .int .i32 0, .int .i32 0] := ((k1.other (a := ⟨w.heap.size + 2, 0, none⟩) n3 (.int .i64 (-1073741823))).other (a := ⟨w.heap.size + 3, 0, none⟩) n4 (.int .i64 1073741823))
          have mg : Gr w ((wr.setCell ⟨w.heap.size + 2, 0, none⟩ (.int .i64 (-1073741823))).setCell ⟨w.heap.size + 3, 0, none⟩ (.int .i64 1073741823)) := ((gW.setCell (p := ⟨w.heap.size + 2, 0, none⟩) (by simp) (.int .i64 (-1073741823))).setCell (p := ⟨w.heap.size + 3, 0, none⟩) (by simp) (.int .i64 1073741823))
          clear p0 p1 q0 q1 z0 z1 k6 k7 k1 gW
          generalize ((wr.setCell ⟨w.heap.size + 2, 0, none⟩ (.int .i64 (-1073741823))).setCell ⟨w.heap.size + 3, 0, none⟩ (.int .i64 1073741823)) = wr2 at *
          obtain ⟨p0, p1⟩ := m6.two
          obtain ⟨q0, q1⟩ := m7.two
          obtain ⟨a0, a1, a2, a3⟩ := m1.four
          have z0 := m1.frozen 0
          have z1 := m1.frozen 1
          have z2 := m1.frozen 2
          have z3 := m1.frozen 3
          have hle : (-1073741823 : Int) ≤ 1073741823 := by omega
          have hgt : ¬ ((-1073741823) : Int) > 1073741823 := by omega
          go_region
          go_wp2
          go_roundw
          case rel =>
            refine ⟨1, by omega, rfl, ⟨(-1073741823), b, 1073741823, d, m6, m7, ?_, ?_⟩, m1, mg.drew⟩
            · simp only [show (0 : Nat) < 1 by omega, if_true]; exact ⟨hA.symm, hC.symm, hle⟩
            · simp only [Nat.lt_irrefl, if_false]; exact HO.out
          case measure => simp [intOf]
        · go_upto_region 12 with fail
          have hA : clL a = (-1073741823) := by unfold clL; rw [if_pos hl]
          have hC : clH c = c := by unfold clH; rw [if_neg hh]
          have m6 : Bk (wr.setCell ⟨w.heap.size + 2, 0, none⟩ (.int .i64 (-1073741823))) (w.heap.size + 2) 60 [.int .i64 (-1073741823), .int .i64 b] := (k6.set 0 (.int .i64 (-1073741823)))
          have m7 : Bk (wr.setCell ⟨w.heap.size + 2, 0, none⟩ (.int .i64 (-1073741823))) (w.heap.size + 3) 60 [.int .i64 c, .int .i64 d] := (k7.other (a := ⟨w.heap.size + 2, 0, none⟩) n1 (.int .i64 (-1073741823)))
          have m1 : Bk (wr.setCell ⟨w.heap.size + 2, 0, none⟩ (.int .i64 (-1073741823))) (w.heap.size + 1) 25 [.int .i32 0, .int .i32 0, .int .i32 0, .int .i32 0] := (k1.other (a := ⟨w.heap.size + 2, 0, none⟩) n3 (.int .i64 (-1073741823)))
          have mg : Gr w (wr.setCell ⟨w.heap.size + 2, 0, none⟩ (.int .i64 (-1073741823))) := (gW.setCell (p := ⟨w.heap.size + 2, 0, none⟩) (by simp) (.int .i64 (-1073741823)))
          clear p0 p1 q0 q1 z0 z1 k6 k7 k1 gW
          generalize (wr.setCell ⟨w.heap.size + 2, 0, none⟩ (.int .i64 (-1073741823))) = wr2 at *
          obtain ⟨p0, p1⟩ := m6.two
          obtain ⟨q0, q1⟩ := m7.two
          obtain ⟨a0, a1, a2, a3⟩ := m1.four
          have z0 := m1.frozen 0
          have z1 := m1.frozen 1
          have z2 := m1.frozen 2
          have z3 := m1.frozen 3
          by_cases hle : (-1073741823) ≤ c
          · have hgt : ¬ ((-1073741823) : Int) > c := by omega
            go_region
            go_wp2
            go_roundw
            case rel =>
              refine ⟨1, by omega, rfl, ⟨(-1073741823), b, c, d, m6, m7, ?_, ?_⟩, m1, mg.drew⟩
              · simp only [show (0 : Nat) < 1 by omega, if_true]; exact ⟨hA.symm, hC.symm, hle⟩
              · simp only [Nat.lt_irrefl, if_false]; exact HO.out
            case measure => simp [intOf]
          · have hgt : ((-1073741823) : Int) > c := by omega
            obtain ⟨rfl, rfl⟩ := HN.out (fun h => by have h' := h.1; rw [hA, hC] at h'; exact hle h')
            go_region
            go_wp2
            have f2 : Bk ((((wr2.setCell ⟨w.heap.size + 1, 0, none⟩ (.int .i32 0)).setCell ⟨w.heap.size + 1, 1, none⟩ (.int .i32 0)).setCell ⟨w.heap.size + 1, 2, none⟩ (.int .i32 0)).setCell ⟨w.heap.size + 1, 3, none⟩ (.int .i32 0)).drew (w.heap.size + 1) 25 [.int .i32 0, .int .i32 0, .int .i32 0, .int .i32 0] := (((m1.set 0 _).set 1 _).set 2 _).set 3 _
            have gF : Gr w ((((wr2.setCell ⟨w.heap.size + 1, 0, none⟩ (.int .i32 0)).setCell ⟨w.heap.size + 1, 1, none⟩ (.int .i32 0)).setCell ⟨w.heap.size + 1, 2, none⟩ (.int .i32 0)).setCell ⟨w.heap.size + 1, 3, none⟩ (.int .i32 0)).drew := ((((mg.setCell (p := ⟨w.heap.size + 1, 0, none⟩) (by simp) _).setCell (p := ⟨w.heap.size + 1, 1, none⟩) (by simp) _).setCell (p := ⟨w.heap.size + 1, 2, none⟩) (by simp) _).setCell (p := ⟨w.heap.size + 1, 3, none⟩) (by simp) _).drew
            clear a0 a1 a2 a3 z0 z1 z2 z3 p0 p1 q0 q1
            generalize hZ : ((((wr2.setCell ⟨w.heap.size + 1, 0, none⟩ (.int .i32 0)).setCell ⟨w.heap.size + 1, 1, none⟩ (.int .i32 0)).setCell ⟨w.heap.size + 1, 2, none⟩ (.int .i32 0)).setCell ⟨w.heap.size + 1, 3, none⟩ (.int .i32 0)).drew = W6 at *
            obtain ⟨a0, a1, a2, a3⟩ := f2.four
            exact bodyPost_ret (v := .tuple #[bx 0 0 0 0, .bool false]) (by simp [results, Try.results10, go_sem, a0, a1, a2, a3]) rfl ⟨rfl, gF⟩
      · by_cases hh : 1073741823 < c
        · go_upto_region 12 with fail
          have hA : clL a = a := by unfold clL; rw [if_neg hl]
          have hC : clH c = 1073741823 := by unfold clH; rw [if_pos hh]
          have m6 : Bk (wr.setCell ⟨w.heap.size + 3, 0, none⟩ (.int .i64 1073741823)) (w.heap.size + 2) 60 [.int .i64 a, .int .i64 b] := (k6.other (a := ⟨w.heap.size + 3, 0, none⟩) n2 (.int .i64 1073741823))
          have m7 : Bk (wr.setCell ⟨w.heap.size + 3, 0, none⟩ (.int .i64 1073741823)) (w.heap.size + 3) 60 [.int .i64 1073741823, .int .i64 d] := (k7.set 0 (.int .i64 1073741823))
          have m1 : Bk (wr.setCell ⟨w.heap.size + 3, 0, none⟩ (.int .i64 1073741823)) (w.heap.size + 1) 25 [.int .i32 0, .int .i32 0, .int .i32 0, .int .i32 0] := (k1.other (a := ⟨w.heap.size + 3, 0, none⟩) n4 (.int .i64 1073741823))
          have mg : Gr w (wr.setCell ⟨w.heap.size + 3, 0, none⟩ (.int .i64 1073741823)) := (gW.setCell (p := ⟨w.heap.size + 3, 0, none⟩) (by simp) (.int .i64 1073741823))
          clear p0 p1 q0 q1 z0 z1 k6 k7 k1 gW
          generalize (wr.setCell ⟨w.heap.size + 3, 0, none⟩ (.int .i64 1073741823)) = wr2 at *
          obtain ⟨p0, p1⟩ := m6.two
          obtain ⟨q0, q1⟩ := m7.two
          obtain ⟨a0, a1, a2, a3⟩ := m1.four
          have z0 := m1.frozen 0
          have z1 := m1.frozen 1
          have z2 := m1.frozen 2
          have z3 := m1.frozen 3
          by_cases hle : a ≤ 1073741823
          · have hgt : ¬ (a : Int) > 1073741823 := by omega
            go_region
            go_wp2
            go_roundw
            case rel =>
              refine ⟨1, by omega, rfl, ⟨a, b, 1073741823, d, m6, m7, ?_, ?_⟩, m1, mg.drew⟩
              · simp only [show (0 : Nat) < 1 by omega, if_true]; exact ⟨hA.symm, hC.symm, hle⟩
              · simp only [Nat.lt_irrefl, if_false]; exact HO.out
            case measure => simp [intOf]
          · have hgt : (a : Int) > 1073741823 := by omega
            obtain ⟨rfl, rfl⟩ := HN.out (fun h => by have h' := h.1; rw [hA, hC] at h'; exact hle h')
            go_region
            go_wp2
            have f2 : Bk ((((wr2.setCell ⟨w.heap.size + 1, 0, none⟩ (.int .i32 0)).setCell ⟨w.heap.size + 1, 1, none⟩ (.int .i32 0)).setCell ⟨w.heap.size + 1, 2, none⟩ (.int .i32 0)).setCell ⟨w.heap.size + 1, 3, none⟩ (.int .i32 0)).drew (w.heap.size + 1) 25 [.int .i32 0, .int .i32 0, .int .i32 0, .int .i32 0] := (((m1.set 0 _).set 1 _).set 2 _).set 3 _
            have gF : Gr w ((((wr2.setCell ⟨w.heap.size + 1, 0, none⟩ (.int .i32 0)).setCell ⟨w.heap.size + 1, 1, none⟩ (.int .i32 0)).setCell ⟨w.heap.size + 1, 2, none⟩ (.int .i32 0)).setCell ⟨w.heap.size + 1, 3, none⟩ (.int .i32 0)).drew := ((((mg.setCell (p := ⟨w.heap.size + 1, 0, none⟩) (by simp) _).setCell (p := ⟨w.heap.size + 1, 1, none⟩) (by simp) _).setCell (p := ⟨w.heap.size + 1, 2, none⟩) (by simp) _).setCell (p := ⟨w.heap.size + 1, 3, none⟩) (by simp) _).drew
            clear a0 a1 a2 a3 z0 z1 z2 z3 p0 p1 q0 q1
            generalize hZ : ((((wr2.setCell ⟨w.heap.size + 1, 0, none⟩ (.int .i32 0)).setCell ⟨w.heap.size + 1, 1, none⟩ (.int .i32 0)).setCell ⟨w.heap.size + 1, 2, none⟩ (.int .i32 0)).setCell ⟨w.heap.size + 1, 3, none⟩ (.int .i32 0)).drew = W6 at *
            obtain ⟨a0, a1, a2, a3⟩ := f2.four
            exact bodyPost_ret (v := .tuple #[bx 0 0 0 0, .bool false]) (by simp [results, Try.results10, go_sem, a0, a1, a2, a3]) rfl ⟨rfl, gF⟩
        · go_upto_region 12 with fail
          have hA : clL a = a := by unfold clL; rw [if_neg hl]
          have hC : clH c = c := by unfold clH; rw [if_neg hh]
          have m6 : Bk wr (w.heap.size + 2) 60 [.int .i64 a, .int .i64 b] := k6
          have m7 : Bk wr (w.heap.size + 3) 60 [.int .i64 c, .int .i64 d] := k7
          have m1 : Bk wr (w.heap.size + 1) 25 [.int .i32 0, .int .i32 0, .int .i32 0, .int .i32 0] := k1
          have mg : Gr w wr := gW
          clear p0 p1 q0 q1 z0 z1 k6 k7 k1 gW
          obtain ⟨wr2, hwr2⟩ : ∃ wr2, wr2 = wr := ⟨_, rfl⟩
          rw [← hwr2] at m6 m7 m1 mg ⊢
          clear hwr2
          obtain ⟨p0, p1⟩ := m6.two
          obtain ⟨q0, q1⟩ := m7.two
          obtain ⟨a0, a1, a2, a3⟩ := m1.four
          have z0 := m1.frozen 0
          have z1 := m1.frozen 1
          have z2 := m1.frozen 2
          have z3 := m1.frozen 3
          by_cases hle : a ≤ c
          · have hgt : ¬ (a : Int) > c := by omega
            go_region
            go_wp2
            go_roundw
            case rel =>
              refine ⟨1, by omega, rfl, ⟨a, b, c, d, m6, m7, ?_, ?_⟩, m1, mg.drew⟩
              · simp only [show (0 : Nat) < 1 by omega, if_true]; exact ⟨hA.symm, hC.symm, hle⟩
              · simp only [Nat.lt_irrefl, if_false]; exact HO.out
            case measure => simp [intOf]
          · have hgt : (a : Int) > c := by omega
            obtain ⟨rfl, rfl⟩ := HN.out (fun h => by have h' := h.1; rw [hA, hC] at h'; exact hle h')
            go_region
            go_wp2
            have f2 : Bk ((((wr2.setCell ⟨w.heap.size + 1, 0, none⟩ (.int .i32 0)).setCell ⟨w.heap.size + 1, 1, none⟩ (.int .i32 0)).setCell ⟨w.heap.size + 1, 2, none⟩ (.int .i32 0)).setCell ⟨w.heap.size + 1, 3, none⟩ (.int .i32 0)).drew (w.heap.size + 1) 25 [.int .i32 0, .int .i32 0, .int .i32 0, .int .i32 0] := (((m1.set 0 _).set 1 _).set 2 _).set 3 _
            have gF : Gr w ((((wr2.setCell ⟨w.heap.size + 1, 0, none⟩ (.int .i32 0)).setCell ⟨w.heap.size + 1, 1, none⟩ (.int .i32 0)).setCell ⟨w.heap.size + 1, 2, none⟩ (.int .i32 0)).setCell ⟨w.heap.size + 1, 3, none⟩ (.int .i32 0)).drew := ((((mg.setCell (p := ⟨w.heap.size + 1, 0, none⟩) (by simp) _).setCell (p := ⟨w.heap.size + 1, 1, none⟩) (by simp) _).setCell (p := ⟨w.heap.size + 1, 2, none⟩) (by simp) _).setCell (p := ⟨w.heap.size + 1, 3, none⟩) (by simp) _).drew
            clear a0 a1 a2 a3 z0 z1 z2 z3 p0 p1 q0 q1
            generalize hZ : ((((wr2.setCell ⟨w.heap.size + 1, 0, none⟩ (.int .i32 0)).setCell ⟨w.heap.size + 1, 1, none⟩ (.int .i32 0)).setCell ⟨w.heap.size + 1, 2, none⟩ (.int .i32 0)).setCell ⟨w.heap.size + 1, 3, none⟩ (.int .i32 0)).drew = W6 at *
            obtain ⟨a0, a1, a2, a3⟩ := f2.four
            exact bodyPost_ret (v := .tuple #[bx 0 0 0 0, .bool false]) (by simp [results, Try.results10, go_sem, a0, a1, a2, a3]) rfl ⟨rfl, gF⟩
    · simp only [Nat.lt_irrefl, if_false, if_true, show (0 : Nat) < 1 by omega] at hac hbd
      have HO := hid0 hac
      obtain ⟨rfl, rfl⟩ := hbd
      clear hac
      obtain ⟨p0, p1⟩ := k6.two
      obtain ⟨q0, q1⟩ := k7.two
      have z0 := k6.frozen 1
      have z1 := k7.frozen 1
      by_cases hl : b < -1073741823
      · by_cases hh : 1073741823 < d
        · go_upto_region 12 with fail
          have hA : clL b = (-1073741823) := by unfold clL; rw [if_pos hl]
          have hC : clH d = 1073741823 := by unfold clH; rw [if_pos hh]
          have m6 : Bk ((wr.setCell ⟨w.heap.size + 2, 1, none⟩ (.int .i64 (-1073741823))).setCell ⟨w.heap.size + 3, 1, none⟩ (.int .i64 1073741823)) (w.heap.size + 2) 60 [.int .i64 a, .int .i64 (-1073741823)] := ((k6.set 1 (.int .i64 (-1073741823))).other (a := ⟨w.heap.size + 3, 1, none⟩) n2 (.int .i64 1073741823))
          have m7 : Bk ((wr.setCell ⟨w.heap.size + 2, 1, none⟩ (.int .i64 (-1073741823))).setCell ⟨w.heap.size + 3, 1, none⟩ (.int .i64 1073741823)) (w.heap.size + 3) 60 [.int .i64 c, .int .i64 1073741823] := ((k7.other (a := ⟨w.heap.size + 2, 1, none⟩) n1 (.int .i64 (-1073741823))).set 1 (.int .i64 1073741823))
          have m1 : Bk ((wr.setCell ⟨w.heap.size + 2, 1, none⟩ (.int .i64 (-1073741823))).setCell ⟨w.heap.size + 3, 1, none⟩ (.int .i64 1073741823)) (w.heap.size + 1) 25 [.int .i32 0, .int .i32 0, .int .i32 0, .int .i32 0] := ((k1.other (a := ⟨w.heap.size + 2, 1, none⟩) n3 (.int .i64 (-1073741823))).other (a := ⟨w.heap.size + 3, 1, none⟩) n4 (.int .i64 1073741823))
          have mg : Gr w ((wr.setCell ⟨w.heap.size + 2, 1, none⟩ (.int .i64 (-1073741823))).setCell ⟨w.heap.size + 3, 1, none⟩ (.int .i64 1073741823)) := ((gW.setCell (p := ⟨w.heap.size + 2, 1, none⟩) (by simp) (.int .i64 (-1073741823))).setCell (p := ⟨w.heap.size + 3, 1, none⟩) (by simp) (.int .i64 1073741823))
          clear p0 p1 q0 q1 z0 z1 k6 k7 k1 gW
          generalize ((wr.setCell ⟨w.heap.size + 2, 1, none⟩ (.int .i64 (-1073741823))).setCell ⟨w.heap.size + 3, 1, none⟩ (.int .i64 1073741823)) = wr2 at *
          obtain ⟨p0, p1⟩ := m6.two
          obtain ⟨q0, q1⟩ := m7.two
          obtain ⟨a0, a1, a2, a3⟩ := m1.four
          have z0 := m1.frozen 0
          have z1 := m1.frozen 1
          have z2 := m1.frozen 2
          have z3 := m1.frozen 3
          have hle : (-1073741823 : Int) ≤ 1073741823 := by omega
          have hgt : ¬ ((-1073741823) : Int) > 1073741823 := by omega
          go_region
          go_wp2
          go_roundw
          case rel =>
            refine ⟨2, by omega, rfl, ⟨a, (-1073741823), c, 1073741823, m6, m7, ?_, ?_⟩, m1, mg.drew⟩
            · simp only [show (0 : Nat) < 2 by omega, if_true]; exact HO.out
            · simp only [show (1 : Nat) < 2 by omega, if_true]; exact ⟨hA.symm, hC.symm, hle⟩
          case measure => simp [intOf]
        · go_upto_region 12 with fail
          have hA : clL b = (-1073741823) := by unfold clL; rw [if_pos hl]
          have hC : clH d = d := by unfold clH; rw [if_neg hh]
          have m6 : Bk (wr.setCell ⟨w.heap.size + 2, 1, none⟩ (.int .i64 (-1073741823))) (w.heap.size + 2) 60 [.int .i64 a, .int .i64 (-1073741823)] := (k6.set 1 (.int .i64 (-1073741823)))
          have m7 : Bk (wr.setCell ⟨w.heap.size + 2, 1, none⟩ (.int .i64 (-1073741823))) (w.heap.size + 3) 60 [.int .i64 c, .int .i64 d] := (k7.other (a := ⟨w.heap.size + 2, 1, none⟩) n1 (.int .i64 (-1073741823)))
          have m1 : Bk (wr.setCell ⟨w.heap.size + 2, 1, none⟩ (.int .i64 (-1073741823))) (w.heap.size + 1) 25 [.int .i32 0, .int .i32 0, .int .i32 0, .int .i32 0] := (k1.other (a := ⟨w.heap.size + 2, 1, none⟩) n3 (.int .i64 (-1073741823)))
          have mg : Gr w (wr.setCell ⟨w.heap.size + 2, 1, none⟩ (.int .i64 (-1073741823))) := (gW.setCell (p := ⟨w.heap.size + 2, 1, none⟩) (by simp) (.int .i64 (-1073741823)))
          clear p0 p1 q0 q1 z0 z1 k6 k7 k1 gW
          generalize (wr.setCell ⟨w.heap.size + 2, 1, none⟩ (.int .i64 (-1073741823))) = wr2 at *
          obtain ⟨p0, p1⟩ := m6.two
          obtain ⟨q0, q1⟩ := m7.two
          obtain ⟨a0, a1, a2, a3⟩ := m1.four
          have z0 := m1.frozen 0
          have z1 := m1.frozen 1
          have z2 := m1.frozen 2
          have z3 := m1.frozen 3
          by_cases hle : (-1073741823) ≤ d
          · have hgt : ¬ ((-1073741823) : Int) > d := by omega
            go_region
            go_wp2
            go_roundw
            case rel =>
              refine ⟨2, by omega, rfl, ⟨a, (-1073741823), c, d, m6, m7, ?_, ?_⟩, m1, mg.drew⟩
              · simp only [show (0 : Nat) < 2 by omega, if_true]; exact HO.out
              · simp only [show (1 : Nat) < 2 by omega, if_true]; exact ⟨hA.symm, hC.symm, hle⟩
            case measure => simp [intOf]
          · have hgt : ((-1073741823) : Int) > d := by omega
            obtain ⟨rfl, rfl⟩ := HN.out (fun h => by have h' := h.2; rw [hA, hC] at h'; exact hle h')
            go_region
            go_wp2
            have f2 : Bk ((((wr2.setCell ⟨w.heap.size + 1, 0, none⟩ (.int .i32 0)).setCell ⟨w.heap.size + 1, 1, none⟩ (.int .i32 0)).setCell ⟨w.heap.size + 1, 2, none⟩ (.int .i32 0)).setCell ⟨w.heap.size + 1, 3, none⟩ (.int .i32 0)).drew (w.heap.size + 1) 25 [.int .i32 0, .int .i32 0, .int .i32 0, .int .i32 0] := (((m1.set 0 _).set 1 _).set 2 _).set 3 _
            have gF : Gr w ((((wr2.setCell ⟨w.heap.size + 1, 0, none⟩ (.int .i32 0)).setCell ⟨w.heap.size + 1, 1, none⟩ (.int .i32 0)).setCell ⟨w.heap.size + 1, 2, none⟩ (.int .i32 0)).setCell ⟨w.heap.size + 1, 3, none⟩ (.int .i32 0)).drew := ((((mg.setCell (p := ⟨w.heap.size + 1, 0, none⟩) (by simp) _).setCell (p := ⟨w.heap.size + 1, 1, none⟩) (by simp) _).setCell (p := ⟨w.heap.size + 1, 2, none⟩) (by simp) _).setCell (p := ⟨w.heap.size + 1, 3, none⟩) (by simp) _).drew
            clear a0 a1 a2 a3 z0 z1 z2 z3 p0 p1 q0 q1
            generalize hZ : ((((wr2.setCell ⟨w.heap.size + 1, 0, none⟩ (.int .i32 0)).setCell ⟨w.heap.size + 1, 1, none⟩ (.int .i32 0)).setCell ⟨w.heap.size + 1, 2, none⟩ (.int .i32 0)).setCell ⟨w.heap.size + 1, 3, none⟩ (.int .i32 0)).drew = W6 at *
            obtain ⟨a0, a1, a2, a3⟩ := f2.four
            exact bodyPost_ret (v := .tuple #[bx 0 0 0 0, .bool false]) (by simp [results, Try.results10, go_sem, a0, a1, a2, a3]) rfl ⟨rfl, gF⟩
      · by_cases hh : 1073741823 < d
        · go_upto_region 12 with fail
          have hA : clL b = b := by unfold clL; rw [if_neg hl]
          have hC : clH d = 1073741823 := by unfold clH; rw [if_pos hh]
          have m6 : Bk (wr.setCell ⟨w.heap.size + 3, 1, none⟩ (.int .i64 1073741823)) (w.heap.size + 2) 60 [.int .i64 a, .int .i64 b] := (k6.other (a := ⟨w.heap.size + 3, 1, none⟩) n2 (.int .i64 1073741823))
          have m7 : Bk (wr.setCell ⟨w.heap.size + 3, 1, none⟩ (.int .i64 1073741823)) (w.heap.size + 3) 60 [.int .i64 c, .int .i64 1073741823] := (k7.set 1 (.int .i64 1073741823))
          have m1 : Bk (wr.setCell ⟨w.heap.size + 3, 1, none⟩ (.int .i64 1073741823)) (w.heap.size + 1) 25 [.int .i32 0, .int .i32 0, .int .i32 0, .int .i32 0] := (k1.other (a := ⟨w.heap.size + 3, 1, none⟩) n4 (.int .i64 1073741823))
          have mg : Gr w (wr.setCell ⟨w.heap.size + 3, 1, none⟩ (.int .i64 1073741823)) := (gW.setCell (p := ⟨w.heap.size + 3, 1, none⟩) (by simp) (.int .i64 1073741823))
          clear p0 p1 q0 q1 z0 z1 k6 k7 k1 gW
          generalize (wr.setCell ⟨w.heap.size + 3, 1, none⟩ (.int .i64 1073741823)) = wr2 at *
          obtain ⟨p0, p1⟩ := m6.two
          obtain ⟨q0, q1⟩ := m7.two
          obtain ⟨a0, a1, a2, a3⟩ := m1.four
          have z0 := m1.frozen 0
          have z1 := m1.frozen 1
          have z2 := m1.frozen 2
          have z3 := m1.frozen 3
          by_cases hle : b ≤ 1073741823
          · have hgt : ¬ (b : Int) > 1073741823 := by omega
            go_region
            go_wp2
            go_roundw
            case rel =>
              refine ⟨2, by omega, rfl, ⟨a, b, c, 1073741823, m6, m7, ?_, ?_⟩, m1, mg.drew⟩
              · simp only [show (0 : Nat) < 2 by omega, if_true]; exact HO.out
              · simp only [show (1 : Nat) < 2 by omega, if_true]; exact ⟨hA.symm, hC.symm, hle⟩
            case measure => simp [intOf]
          · have hgt : (b : Int) > 1073741823 := by omega
            obtain ⟨rfl, rfl⟩ := HN.out (fun h => by have h' := h.2; rw [hA, hC] at h'; exact hle h')
            go_region
            go_wp2
            have f2 : Bk ((((wr2.setCell ⟨w.heap.size + 1, 0, none⟩ (.int .i32 0)).setCell ⟨w.heap.size + 1, 1, none⟩ (.int .i32 0)).setCell ⟨w.heap.size + 1, 2, none⟩ (.int .i32 0)).setCell ⟨w.heap.size + 1, 3, none⟩ (.int .i32 0)).drew (w.heap.size + 1) 25 [.int .i32 0, .int .i32 0, .int .i32 0, .int .i32 0] := (((m1.set 0 _).set 1 _).set 2 _).set 3 _
            have gF : Gr w ((((wr2.setCell ⟨w.heap.size + 1, 0, none⟩ (.int .i32 0)).setCell ⟨w.heap.size + 1, 1, none⟩ (.int .i32 0)).setCell ⟨w.heap.size + 1, 2, none⟩ (.int .i32 0)).setCell ⟨w.heap.size + 1, 3, none⟩ (.int .i32 0)).drew := ((((mg.setCell (p := ⟨w.heap.size + 1, 0, none⟩) (by simp) _).setCell (p := ⟨w.heap.size + 1, 1, none⟩) (by simp) _).setCell (p := ⟨w.heap.size + 1, 2, none⟩) (by simp) _).setCell (p := ⟨w.heap.size + 1, 3, none⟩) (by simp) _).drew
            clear a0 a1 a2 a3 z0 z1 z2 z3 p0 p1 q0 q1
            generalize hZ : ((((wr2.setCell ⟨w.heap.size + 1, 0, none⟩ (.int .i32 0)).setCell ⟨w.heap.size + 1, 1, none⟩ (.int .i32 0)).setCell ⟨w.heap.size + 1, 2, none⟩ (.int .i32 0)).setCell ⟨w.heap.size + 1, 3, none⟩ (.int .i32 0)).drew = W6 at *
            obtain ⟨a0, a1, a2, a3⟩ := f2.four
            exact bodyPost_ret (v := .tuple #[bx 0 0 0 0, .bool false]) (by simp [results, Try.results10, go_sem, a0, a1, a2, a3]) rfl ⟨rfl, gF⟩
        · go_upto_region 12 with fail
          have hA : clL b = b := by unfold clL; rw [if_neg hl]
          have hC : clH d = d := by unfold clH; rw [if_neg hh]
          have m6 : Bk wr (w.heap.size + 2) 60 [.int .i64 a, .int .i64 b] := k6
          have m7 : Bk wr (w.heap.size + 3) 60 [.int .i64 c, .int .i64 d] := k7
          have m1 : Bk wr (w.heap.size + 1) 25 [.int .i32 0, .int .i32 0, .int .i32 0, .int .i32 0] := k1
          have mg : Gr w wr := gW
          clear p0 p1 q0 q1 z0 z1 k6 k7 k1 gW
          obtain ⟨wr2, hwr2⟩ : ∃ wr2, wr2 = wr := ⟨_, rfl⟩
          rw [← hwr2] at m6 m7 m1 mg ⊢
          clear hwr2
          obtain ⟨p0, p1⟩ := m6.two
          obtain ⟨q0, q1⟩ := m7.two
          obtain ⟨a0, a1, a2, a3⟩ := m1.four
          have z0 := m1.frozen 0
          have z1 := m1.frozen 1
          have z2 := m1.frozen 2
          have z3 := m1.frozen 3
          by_cases hle : b ≤ d
          · have hgt : ¬ (b : Int) > d := by omega
            go_region
            go_wp2
            go_roundw
            case rel =>
              refine ⟨2, by omega, rfl, ⟨a, b, c, d, m6, m7, ?_, ?_⟩, m1, mg.drew⟩
              · simp only [show (0 : Nat) < 2 by omega, if_true]; exact HO.out
              · simp only [show (1 : Nat) < 2 by omega, if_true]; exact ⟨hA.symm, hC.symm, hle⟩
            case measure => simp [intOf]
          · have hgt : (b : Int) > d := by omega
            obtain ⟨rfl, rfl⟩ := HN.out (fun h => by have h' := h.2; rw [hA, hC] at h'; exact hle h')
            go_region
            go_wp2
            have f2 : Bk ((((wr2.setCell ⟨w.heap.size + 1, 0, none⟩ (.int .i32 0)).setCell ⟨w.heap.size + 1, 1, none⟩ (.int .i32 0)).setCell ⟨w.heap.size + 1, 2, none⟩ (.int .i32 0)).setCell ⟨w.heap.size + 1, 3, none⟩ (.int .i32 0)).drew (w.heap.size + 1) 25 [.int .i32 0, .int .i32 0, .int .i32 0, .int .i32 0] := (((m1.set 0 _).set 1 _).set 2 _).set 3 _
            have gF : Gr w ((((wr2.setCell ⟨w.heap.size + 1, 0, none⟩ (.int .i32 0)).setCell ⟨w.heap.size + 1, 1, none⟩ (.int .i32 0)).setCell ⟨w.heap.size + 1, 2, none⟩ (.int .i32 0)).setCell ⟨w.heap.size + 1, 3, none⟩ (.int .i32 0)).drew := ((((mg.setCell (p := ⟨w.heap.size + 1, 0, none⟩) (by simp) _).setCell (p := ⟨w.heap.size + 1, 1, none⟩) (by simp) _).setCell (p := ⟨w.heap.size + 1, 2, none⟩) (by simp) _).setCell (p := ⟨w.heap.size + 1, 3, none⟩) (by simp) _).drew
            clear a0 a1 a2 a3 z0 z1 z2 z3 p0 p1 q0 q1
            generalize hZ : ((((wr2.setCell ⟨w.heap.size + 1, 0, none⟩ (.int .i32 0)).setCell ⟨w.heap.size + 1, 1, none⟩ (.int .i32 0)).setCell ⟨w.heap.size + 1, 2, none⟩ (.int .i32 0)).setCell ⟨w.heap.size + 1, 3, none⟩ (.int .i32 0)).drew = W6 at *
            obtain ⟨a0, a1, a2, a3⟩ := f2.four
            exact bodyPost_ret (v := .tuple #[bx 0 0 0 0, .bool false]) (by simp [results, Try.results10, go_sem, a0, a1, a2, a3]) rfl ⟨rfl, gF⟩
    · simp only [show (0 : Nat) < 2 by omega, show (1 : Nat) < 2 by omega, if_true] at hac hbd
      obtain ⟨ea, ec, hab⟩ := hac
      obtain ⟨eb, ed, hbd'⟩ := hbd
      obtain ⟨rfl, eV⟩ := HY.out (by rw [← ea, ← ec]; exact hab) (by rw [← eb, ← ed]; exact hbd')
      rw [← ea, ← eb, ← ec, ← ed] at eV
      subst eV
      have ba : in32 a ∧ in32 b ∧ in32 c ∧ in32 d := by
        have h1 : -1073741823 ≤ a := by rw [ea]; unfold clL; split <;> omega
        have h2 : -1073741823 ≤ b := by rw [eb]; unfold clL; split <;> omega
        have h3 : c ≤ 1073741823 := by rw [ec]; unfold clH; split <;> omega
        have h4 : d ≤ 1073741823 := by rw [ed]; unfold clH; split <;> omega
        unfold in32
        refine ⟨?_, ?_, ?_, ?_⟩ <;> omega
      have w1 : wrap32 a = a := w32_eq ba.1
      have w2 : wrap32 b = b := w32_eq ba.2.1
      have w3 : wrap32 c = c := w32_eq ba.2.2.1
      have w4 : wrap32 d = d := w32_eq ba.2.2.2
      clear ea eb ec ed hab hbd' ba HY HN
      obtain ⟨p0, p1⟩ := k6.two
      obtain ⟨q0, q1⟩ := k7.two
      obtain ⟨a0, a1, a2, a3⟩ := k1.four
      have z0 := k1.frozen 0
      have z1 := k1.frozen 1
      have z2 := k1.frozen 2
      have z3 := k1.frozen 3
      go_wp2
      have f2 : Bk ((((wr.setCell ⟨w.heap.size + 1, 0, none⟩ (.int .i32 a)).setCell ⟨w.heap.size + 1, 1, none⟩ (.int .i32 b)).setCell ⟨w.heap.size + 1, 2, none⟩ (.int .i32 c)).setCell ⟨w.heap.size + 1, 3, none⟩ (.int .i32 d)) (w.heap.size + 1) 25 [.int .i32 a, .int .i32 b, .int .i32 c, .int .i32 d] := (((k1.set 0 _).set 1 _).set 2 _).set 3 _
      have gF := (((gW.setCell (p := ⟨w.heap.size + 1, 0, none⟩) (by simp) (.int .i32 a)).setCell (p := ⟨w.heap.size + 1, 1, none⟩) (by simp) (.int .i32 b)).setCell (p := ⟨w.heap.size + 1, 2, none⟩) (by simp) (.int .i32 c)).setCell (p := ⟨w.heap.size + 1, 3, none⟩) (by simp) (.int .i32 d)
      clear a0 a1 a2 a3 z0 z1 z2 z3 p0 p1 q0 q1
      generalize (((wr.setCell ⟨w.heap.size + 1, 0, none⟩ (.int .i32 a)).setCell ⟨w.heap.size + 1, 1, none⟩ (.int .i32 b)).setCell ⟨w.heap.size + 1, 2, none⟩ (.int .i32 c)).setCell ⟨w.heap.size + 1, 3, none⟩ (.int .i32 d) = W6 at *
      obtain ⟨a0, a1, a2, a3⟩ := f2.four
      exact bodyPost_ret (v := .tuple #[bx a b c d, .bool true]) (by simp [results, Try.results10, go_sem, a0, a1, a2, a3]) rfl ⟨rfl, gF⟩
end Go.Proofs.Ytmoddfikhipagaa
