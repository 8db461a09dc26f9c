/- cell's Square and the reference's. -/
import Derived.Test.YtmoddfikhipagaaOv
set_option linter.unusedSimpArgs false
set_option linter.unusedVariables false
namespace Go.Proofs.Ytmoddfikhipagaa
open Go.RowKit Go.Sort

def clL (l : Int) : Int := if l < -1073741823 then -1073741823 else l
def clH (h : Int) : Int := if 1073741823 < h then 1073741823 else h
def sLo (n s : Int) : Int := clL (n * s)
def sHi (n s : Int) : Int := clH (n * s + s - 1)
theorem ns_bd {n s : Int} (hn : in32 n) (hs : 1 ≤ s) (hs2 : s ≤ 2147483648) : -4611686018427387904 ≤ n * s ∧ n * s ≤ 4611686018427387904 := by
  unfold in32 at hn
  have h1 : n * s ≤ 2147483648 * s := Int.mul_le_mul_of_nonneg_right (by omega) (by omega)
  have h2 : (-2147483648) * s ≤ n * s := Int.mul_le_mul_of_nonneg_right (by omega) (by omega)
  constructor <;> omega
set_option maxRecDepth 20000 in
set_option maxHeartbeats 4000000 in
theorem stretch_any (n s : Int) (hn : in32 n) (hs : 1 ≤ s) (hs2 : s ≤ 2147483648) (w : World) :
    Calls Try.prog 33 #[.int .i32 n, .int .i64 s] w fun e w' => e = .returned (.tuple #[.int .i32 (if sLo n s ≤ sHi n s then sLo n s else 0), .int .i32 (if sLo n s ≤ sHi n s then sHi n s else 0), .bool (decide (sLo n s ≤ sHi n s))]) ∧ w' = w := by
  have hb := ns_bd hn hs hs2
  obtain ⟨F, hF⟩ : ∃ F, F = n * s := ⟨_, rfl⟩
  have e0 : wrap64 n = n := w64_32 hn
  have e1 : wrap64 (n * s) = F := by rw [hF]; exact w64_in (by unfold in64; omega)
  have e2 : wrap64 (F + s) = F + s := w64_in (by unfold in64; omega)
  have e3 : wrap64 (F + s - 1) = F + s - 1 := w64_in (by unfold in64; omega)
  obtain ⟨A, hA⟩ : ∃ A, A = sLo n s := ⟨_, rfl⟩
  obtain ⟨B, hB⟩ : ∃ B, B = sHi n s := ⟨_, rfl⟩
  have hA1 : A = clL F := by rw [hA, hF]; rfl
  have hB1 : B = clH (F + s - 1) := by rw [hB, hF]; rfl
  rw [← hA, ← hB]
  have m1 : (if F < -1073741823 then -1073741823 else F) = A := by rw [hA1]; rfl
  have m2 : (if 1073741823 < F + s - 1 then 1073741823 else F + s - 1) = B := by rw [hB1]; rfl
  by_cases hab : A ≤ B
  · rw [if_pos hab, if_pos hab, decide_eq_true hab]
    have hA3 : in32 A := by unfold in32; rw [hA1] at hab ⊢; rw [hB1] at hab; unfold clL clH at *; split at hab <;> split at hab <;> (try split) <;> omega
    have hB3 : in32 B := by unfold in32; rw [hA1] at hab; rw [hB1] at hab ⊢; unfold clL clH at *; split at hab <;> split at hab <;> (try split) <;> omega
    have x1 : wrap32 A = A := w32_eq hA3
    have x2 : wrap32 B = B := w32_eq hB3
    clear hF hA hB hA1 hB1 hb hA3 hB3
    go_enter Try.func33, Try.ntmps33
    go_wp2
    exact bodyPost_ret (v := .tuple #[.int .i32 A, .int .i32 B, .bool true]) (by simp [results, Try.results33, go_sem, m1, m2, x1, x2]) rfl ⟨rfl, rfl⟩
  · rw [if_neg hab, if_neg hab, decide_eq_false hab]
    clear hF hA hB hA1 hB1 hb
    go_enter Try.func33, Try.ntmps33
    go_wp2
    exact bodyPost_ret (v := .tuple #[.int .i32 0, .int .i32 0, .bool false]) (by simp [results, Try.results33, go_sem]) rfl ⟨rfl, rfl⟩

/-- A cell's points: whether there are any; the box. -/
def sqB (x y s : Int) : Bool := szB s && decide (sLo x s ≤ sHi x s) && decide (sLo y s ≤ sHi y s)
def sqV (x y s : Int) : Value := if sqB x y s then bx (sLo x s) (sLo y s) (sHi x s) (sHi y s) else bx 0 0 0 0
set_option maxRecDepth 20000 in
set_option maxHeartbeats 4000000 in
theorem square_raw (x y s : Int) (b0 b1 b2 : Bool) (l1 h1 l2 h2 : Int) (V : Value) (w : World)
    (S1 : Hid (∀ w, Calls Try.prog 30 #[.int .i64 s] w fun e w' => e = .returned (.bool b0) ∧ w' = w))
    (T1 : Hid (b0 = true → ∀ w, Calls Try.prog 33 #[.int .i32 x, .int .i64 s] w fun e w' => e = .returned (.tuple #[.int .i32 l1, .int .i32 h1, .bool b1]) ∧ w' = w))
    (T2 : Hid (b0 = true → ∀ w, Calls Try.prog 33 #[.int .i32 y, .int .i64 s] w fun e w' => e = .returned (.tuple #[.int .i32 l2, .int .i32 h2, .bool b2]) ∧ w' = w))
    (hV : V = if b0 && b1 && b2 then bx l1 l2 h1 h2 else bx 0 0 0 0) :
    Calls Try.prog 9 #[pt x y, .int .i64 s] w fun e w' => e = .returned (.tuple #[V, .bool (b0 && b1 && b2)]) ∧ Gr w w' := by
  have k0 := (Bk.new w 26 [.int .i32 x, .int .i32 y]).alloc (.cells #[.int .i32 0, .int .i32 0, .int .i32 0, .int .i32 0] 25)
  have k1 : Bk ((w.alloc (.cells #[.int .i32 x, .int .i32 y] 26)).alloc (.cells #[.int .i32 0, .int .i32 0, .int .i32 0, .int .i32 0] 25)) (w.heap.size + 1) 25 [.int .i32 0, .int .i32 0, .int .i32 0, .int .i32 0] := by
    have := Bk.new (w.alloc (.cells #[.int .i32 x, .int .i32 y] 26)) 25 [.int .i32 0, .int .i32 0, .int .i32 0, .int .i32 0]; rwa [World.size_alloc] at this
  have gW : Gr w ((w.alloc (.cells #[.int .i32 x, .int .i32 y] 26)).alloc (.cells #[.int .i32 0, .int .i32 0, .int .i32 0, .int .i32 0] 25)) := ((Gr.refl _).alloc _).alloc _
  have FIN : Hid (∀ W a b c d, Bk W (w.heap.size + 1) 25 [.int .i32 0, .int .i32 0, .int .i32 0, .int .i32 0] → Gr w W → Bk ((((W.setCell ⟨w.heap.size + 1, 0, none⟩ (.int .i32 a)).setCell ⟨w.heap.size + 1, 1, none⟩ (.int .i32 b)).setCell ⟨w.heap.size + 1, 2, none⟩ (.int .i32 c)).setCell ⟨w.heap.size + 1, 3, none⟩ (.int .i32 d)) (w.heap.size + 1) 25 [.int .i32 a, .int .i32 b, .int .i32 c, .int .i32 d] ∧
      Gr w ((((W.setCell ⟨w.heap.size + 1, 0, none⟩ (.int .i32 a)).setCell ⟨w.heap.size + 1, 1, none⟩ (.int .i32 b)).setCell ⟨w.heap.size + 1, 2, none⟩ (.int .i32 c)).setCell ⟨w.heap.size + 1, 3, none⟩ (.int .i32 d))) := fun W a b c d k g =>
    ⟨(((k.set 0 _).set 1 _).set 2 _).set 3 _, (((g.setCell (p := ⟨w.heap.size + 1, 0, none⟩) (by simp) _).setCell (p := ⟨w.heap.size + 1, 1, none⟩) (by simp) _).setCell (p := ⟨w.heap.size + 1, 2, none⟩) (by simp) _).setCell (p := ⟨w.heap.size + 1, 3, none⟩) (by simp) _⟩
  cases b0
  · subst hV
    clear T1 T2
    go_enter Try.func9, Try.ntmps9
    go_upto_region 1 with fail
    generalize (w.alloc (.cells #[.int .i32 x, .int .i32 y] 26)).alloc (.cells #[.int .i32 0, .int .i32 0, .int .i32 0, .int .i32 0] 25) = W at *
    obtain ⟨a0, a1, a2, a3⟩ := k1.four
    have z0 := k1.frozen 0
    have z1 := k1.frozen 1
    have z2 := k1.frozen 2
    have z3 := k1.frozen 3
    go_wp2_with (go_at_call 30; refine (S1.out _).mono ?_; rintro e w1 ⟨rfl, rfl⟩; clear S1)
    obtain ⟨f2, gF⟩ := FIN.out w1 0 0 0 0 k1 gW
    clear a0 a1 a2 a3 z0 z1 z2 z3
    generalize (((w1.setCell ⟨w.heap.size + 1, 0, none⟩ (.int .i32 0)).setCell ⟨w.heap.size + 1, 1, none⟩ (.int .i32 0)).setCell ⟨w.heap.size + 1, 2, none⟩ (.int .i32 0)).setCell ⟨w.heap.size + 1, 3, none⟩ (.int .i32 0) = W6 at *
    obtain ⟨a0, a1, a2, a3⟩ := f2.four
    exact bodyPost_ret (v := .tuple #[bx 0 0 0 0, .bool false]) (by simp [results, Try.results9, go_sem, a0, a1, a2, a3]) rfl ⟨rfl, gF⟩
  · replace T1 := hid0 (T1.out rfl)
    replace T2 := hid0 (T2.out rfl)
    cases hb : (b1 && b2)
    · have eV : V = bx 0 0 0 0 := by rw [hV]; simp [hb]
      subst eV
      clear hV
      have hb' : (true && b1 && b2) = false := by simpa using hb
      rw [hb']
      have hnot : (!b1) = true ∨ (b1 = true ∧ (!b2) = true) := by cases b1 <;> cases b2 <;> simp at hb ⊢
      clear hb hb'
      rcases hnot with hnb | ⟨hb1, hnb⟩
      · go_enter Try.func9, Try.ntmps9
        go_upto_region 1 with fail
        generalize (w.alloc (.cells #[.int .i32 x, .int .i32 y] 26)).alloc (.cells #[.int .i32 0, .int .i32 0, .int .i32 0, .int .i32 0] 25) = W at *
        obtain ⟨p0, p1⟩ := k0.two
        obtain ⟨a0, a1, a2, a3⟩ := k1.four
        have z0 := k1.frozen 0
        have z1 := k1.frozen 1
        have z2 := k1.frozen 2
        have z3 := k1.frozen 3
        go_wp2_with (first
          | (go_at_call 30; refine (S1.out _).mono ?_; rintro e w1 ⟨rfl, rfl⟩; clear S1)
          | (go_at_call 33; refine (T1.out _).mono ?_; rintro e w1 ⟨rfl, rfl⟩; clear T1)
          | (go_at_call 33; refine (T2.out _).mono ?_; rintro e w1 ⟨rfl, rfl⟩; clear T2))
        obtain ⟨f2, gF⟩ := FIN.out w1 0 0 0 0 k1 gW
        clear a0 a1 a2 a3 z0 z1 z2 z3
        generalize (((w1.setCell ⟨w.heap.size + 1, 0, none⟩ (.int .i32 0)).setCell ⟨w.heap.size + 1, 1, none⟩ (.int .i32 0)).setCell ⟨w.heap.size + 1, 2, none⟩ (.int .i32 0)).setCell ⟨w.heap.size + 1, 3, none⟩ (.int .i32 0) = W6 at *
        obtain ⟨a0, a1, a2, a3⟩ := f2.four
        exact bodyPost_ret (v := .tuple #[bx 0 0 0 0, .bool false]) (by simp [results, Try.results9, go_sem, a0, a1, a2, a3]) rfl ⟨rfl, gF⟩
      · subst hb1
        go_enter Try.func9, Try.ntmps9
        go_upto_region 1 with fail
        generalize (w.alloc (.cells #[.int .i32 x, .int .i32 y] 26)).alloc (.cells #[.int .i32 0, .int .i32 0, .int .i32 0, .int .i32 0] 25) = W at *
        obtain ⟨p0, p1⟩ := k0.two
        obtain ⟨a0, a1, a2, a3⟩ := k1.four
        have z0 := k1.frozen 0
        have z1 := k1.frozen 1
        have z2 := k1.frozen 2
        have z3 := k1.frozen 3
        go_wp2_with (first
          | (go_at_call 30; refine (S1.out _).mono ?_; rintro e w1 ⟨rfl, rfl⟩; clear S1)
          | (go_at_call 33; refine (T1.out _).mono ?_; rintro e w1 ⟨rfl, rfl⟩; clear T1)
          | (go_at_call 33; refine (T2.out _).mono ?_; rintro e w1 ⟨rfl, rfl⟩; clear T2))
        obtain ⟨f2, gF⟩ := FIN.out w1 0 0 0 0 k1 gW
        clear a0 a1 a2 a3 z0 z1 z2 z3
        generalize (((w1.setCell ⟨w.heap.size + 1, 0, none⟩ (.int .i32 0)).setCell ⟨w.heap.size + 1, 1, none⟩ (.int .i32 0)).setCell ⟨w.heap.size + 1, 2, none⟩ (.int .i32 0)).setCell ⟨w.heap.size + 1, 3, none⟩ (.int .i32 0) = W6 at *
        obtain ⟨a0, a1, a2, a3⟩ := f2.four
        exact bodyPost_ret (v := .tuple #[bx 0 0 0 0, .bool false]) (by simp [results, Try.results9, go_sem, a0, a1, a2, a3]) rfl ⟨rfl, gF⟩
    · have hbb : b1 = true ∧ b2 = true := by simpa using hb
      obtain ⟨rfl, rfl⟩ := hbb
      have eV : V = bx l1 l2 h1 h2 := by rw [hV]; rfl
      subst eV
      clear hV hb
      go_enter Try.func9, Try.ntmps9
      go_upto_region 1 with fail
      generalize (w.alloc (.cells #[.int .i32 x, .int .i32 y] 26)).alloc (.cells #[.int .i32 0, .int .i32 0, .int .i32 0, .int .i32 0] 25) = W at *
      obtain ⟨p0, p1⟩ := k0.two
      obtain ⟨a0, a1, a2, a3⟩ := k1.four
      have z0 := k1.frozen 0
      have z1 := k1.frozen 1
      have z2 := k1.frozen 2
      have z3 := k1.frozen 3
      go_wp2_with (first
        | (go_at_call 30; refine (S1.out _).mono ?_; rintro e w1 ⟨rfl, rfl⟩; clear S1)
        | (go_at_call 33; refine (T1.out _).mono ?_; rintro e w1 ⟨rfl, rfl⟩; clear T1)
        | (go_at_call 33; refine (T2.out _).mono ?_; rintro e w1 ⟨rfl, rfl⟩; clear T2))
      obtain ⟨f2, gF⟩ := FIN.out w1 l1 l2 h1 h2 k1 gW
      clear a0 a1 a2 a3 z0 z1 z2 z3
      generalize (((w1.setCell ⟨w.heap.size + 1, 0, none⟩ (.int .i32 l1)).setCell ⟨w.heap.size + 1, 1, none⟩ (.int .i32 l2)).setCell ⟨w.heap.size + 1, 2, none⟩ (.int .i32 h1)).setCell ⟨w.heap.size + 1, 3, none⟩ (.int .i32 h2) = W6 at *
      obtain ⟨a0, a1, a2, a3⟩ := f2.four
      exact bodyPost_ret (v := .tuple #[bx l1 l2 h1 h2, .bool true]) (by simp [results, Try.results9, go_sem, a0, a1, a2, a3]) rfl ⟨rfl, gF⟩
end Go.Proofs.Ytmoddfikhipagaa
