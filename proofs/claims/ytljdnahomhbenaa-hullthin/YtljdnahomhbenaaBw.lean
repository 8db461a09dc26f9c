/- The law's between: whether all points between two places are within the tolerance. -/
import Derived.Test.YtljdnahomhbenaaWi
import Derived.Lib.QuietBelow
namespace Go.Proofs.Ytljdnahomhbenaa
section
set_option linter.unusedSimpArgs false
set_option linter.unusedVariables false
open Go.RowKit Go.Sort Go.Lib Go.Shelf

theorem rwithin_re (a b p : Int × Int) (tol : Int) (ha : latP a) (hb : latP b) (hp : latP p) (ht : 0 ≤ tol ∧ tol ≤ 3037000498) (w : World) : ∀ d os, Calls Try.prog 80 #[pt a.1 a.2, pt b.1 b.2, pt p.1 p.2, .int .i64 tol] (grow (redrawn w d) os) fun e w' => e = .returned (.bool (witB a b p tol)) ∧ ∃ p : Regrown, w' = grow (redrawn w p.d) p.os :=
  fun d os => Calls.regrown_of (rwithin_any a b p tol ha hb hp ht (grow (redrawn w d) os))
/-- All points between the places i and j are within the tolerance. -/
def btwB (V : List (Int × Int)) (i j : Nat) (tol : Int) : Bool := (List.range j).all fun m => decide (m ≤ i) || witB (V.getD i (0, 0)) (V.getD j (0, 0)) (V.getD m (0, 0)) tol
theorem bet_true {V : List (Int × Int)} {i j : Nat} {tol : Int} (h : ∀ m, i < m → m < j → witB (V.getD i (0, 0)) (V.getD j (0, 0)) (V.getD m (0, 0)) tol = true) : btwB V i j tol = true := by
  unfold btwB
  rw [List.all_eq_true]
  intro m hm
  rw [List.mem_range] at hm
  by_cases c : m ≤ i
  · simp [c]
  · rw [h m (by omega) hm]; simp
theorem bet_false {V : List (Int × Int)} {i j m : Nat} {tol : Int} (h1 : i < m) (h2 : m < j) (h : witB (V.getD i (0, 0)) (V.getD j (0, 0)) (V.getD m (0, 0)) tol = false) : btwB V i j tol = false := by
  unfold btwB
  rw [List.all_eq_false]
  refine ⟨m, List.mem_range.2 h2, ?_⟩
  rw [h]
  simp
  omega
theorem lat_get {V : List (Int × Int)} (hV : ∀ p ∈ V, latP p) {k : Nat} (hk : k < V.length) : latP (V.getD k (0, 0)) := hV _ (by rw [show V.getD k (0, 0) = V[k] by simp [List.getD, hk]]; exact List.getElem_mem hk)

set_option maxRecDepth 20000 in
set_option maxHeartbeats 4000000 in
theorem between_any (b off cap : Nat) (V : List (Int × Int)) (i j : Nat) (tol : Int) (hl : V.length ≤ 4096) (hij : i < j) (hj : j < V.length) (hV : ∀ p ∈ V, latP p) (ht : 0 ≤ tol ∧ tol ≤ 3037000498) (w : World) (hP : Pts w (some ⟨b, off, none⟩) V) :
    Calls Try.prog 54 #[.slice (some ⟨b, off, none⟩) V.length cap, .int .i64 i, .int .i64 j, .int .i64 tol] w fun e w' => e = .returned (.bool (btwB V i j tol)) ∧ Below w.heap.size w w' := by
  have HP := hid0 hP
  have Q : Hid (∀ k, k < V.length → ∀ w, ∀ d os, Calls Try.prog 80 #[pt (V.getD i (0, 0)).1 (V.getD i (0, 0)).2, pt (V.getD j (0, 0)).1 (V.getD j (0, 0)).2, pt (V.getD k (0, 0)).1 (V.getD k (0, 0)).2, .int .i64 tol] (grow (redrawn w d) os) fun e w' => e = .returned (.bool (witB (V.getD i (0, 0)) (V.getD j (0, 0)) (V.getD k (0, 0)) tol)) ∧ ∃ p : Regrown, w' = grow (redrawn w p.d) p.os) := fun k hk w => rwithin_re _ _ _ tol (lat_get hV (by omega)) (lat_get hV hj) (lat_get hV hk) ht w
  have BT := hid0 (bet_true (V := V) (i := i) (j := j) (tol := tol))
  have BF := hid0 (fun m => bet_false (V := V) (i := i) (j := j) (m := m) (tol := tol))
  generalize btwB V i j tol = R at *
  clear hP hV ht
  obtain ⟨f, hf⟩ : ∃ f : Nat → Bool, ∀ m, witB (V.getD i (0, 0)) (V.getD j (0, 0)) (V.getD m (0, 0)) tol = f m := ⟨_, fun _ => rfl⟩
  simp only [hf] at Q BT BF
  clear hf
  have Pi := HP.out i (by omega)
  have Pj := HP.out j hj
  obtain ⟨A, hA⟩ : ∃ A, V.getD i (0, 0) = A := ⟨_, rfl⟩
  obtain ⟨Z, hZ⟩ : ∃ Z, V.getD j (0, 0) = Z := ⟨_, rfl⟩
  rw [hA] at Pi Q
  rw [hZ] at Pj Q
  clear hA hZ
  obtain ⟨b', o', e, a0, a1⟩ := Pi
  cases e
  obtain ⟨b', o', e, z0, z1⟩ := Pj
  cases e
  obtain ⟨n, hn⟩ : ∃ n, V.length = n := ⟨_, rfl⟩
  rw [hn] at hl hj Q ⊢
  have HN := hid0 hn
  clear hn
  go_enter Try.func54, Try.ntmps54
  go_wp2
  go_loopw [9] (fun kv wr => ∃ k : Nat, i < k ∧ k ≤ j ∧ kv = .int .i64 k ∧ Hid (∀ m, i < m → m < k → f m = true) ∧ Below w.heap.size w wr) (fun kv _ => j - (intOf kv).toNat)
  case atStart => exact ⟨i + 1, by omega, by omega, by go_num, (fun m h1 h2 => by omega), Below.refl _ _⟩
  case round =>
    obtain ⟨k, hik, hkj, rfl, hE, hB⟩ := hrel
    by_cases hlt : k < j
    · obtain ⟨b', o', e, p0, p1⟩ := HP.out k (by rw [HN.out]; omega)
      cases e
      have QK := hid0 (Q.out k (by omega) wr)
      obtain ⟨q, hq⟩ : ∃ q, V.getD k (0, 0) = q := ⟨_, rfl⟩
      rw [hq] at p0 p1 QK
      clear hq
      have y0 := fun d os => cell_regrown (below_cell p0 hB) d os
      have y1 := fun d os => cell_regrown (below_cell p1 hB) d os
      have y2 := fun d os => cell_regrown (below_cell a0 hB) d os
      have y3 := fun d os => cell_regrown (below_cell a1 hB) d os
      have y4 := fun d os => cell_regrown (below_cell z0 hB) d os
      have y5 := fun d os => cell_regrown (below_cell z1 hB) d os
      have hkn : k < n := by omega
      have hin : i < n := by omega
      obtain ⟨fk, hfk⟩ : ∃ fk, f k = fk := ⟨_, rfl⟩
      rw [hfk] at QK
      have HF := hid0 hfk
      clear hfk
      go_upto_region 4 with fail
      refine wp_region_quiet_below (by kernel_rfl) (by kernel_rfl) ?_
      repeat (go_big_quiet_step (fail))
      go_big_quiet_step (exact QK.out _ _)
      repeat (go_big_quiet_step (fail))
      refine wpQuiet_nil ?_
      rintro _ ⟨⟨dq, osq⟩, rfl⟩
      have hc := below_regrown wr dq osq
      replace hB := hB.trans (hc.mono hB.size)
      clear y0 y1 y2 y3 y4 y5 QK hc p0 p1
      generalize grow (redrawn wr dq) osq = W2 at *
      cases fk with
      | true =>
        go_wp2
        go_roundw
        case rel =>
          refine ⟨k + 1, by omega, by omega, by go_num, fun m h1 h2 => ?_, hB⟩
          by_cases c : m = k
          · rw [c]; exact HF.out
          · exact hE.out m h1 (by omega)
        case measure => simp [intOf]; omega
      | false =>
        have eR := BF.out k hik hlt HF.out
        clear BF BT
        go_wp2
        go_ret
        exact ⟨by rw [eR]; rfl, hB⟩
    · have eR := BT.out (fun m h1 h2 => hE.out m h1 (by omega))
      clear BF BT
      go_wp2
      go_ret
      exact ⟨by rw [eR]; rfl, hB⟩
end
end Go.Proofs.Ytljdnahomhbenaa
