/- The document's own sets: lists of truths. -/
import Derived.Test.YtjnjpjpgokdciaaDoorBc
import Derived.Maps.AppendAt
set_option linter.unusedSimpArgs false
set_option linter.unusedVariables false
namespace Go.Proofs.YtjnjpjpgokdciaaDoor
open Go.RowKit Go.Sort Go.Shelf

structure RBits (w : World) (r q : Nat) (T : List Bool) : Prop where
  blk : Bk w r 114 [.slice (some ⟨q, 0, none⟩) T.length T.length]
  row : Bk w q 4 (T.map Value.bool)
section
variable {w w' : World} {r q : Nat} {T : List Bool}
theorem RBits.gr (h : RBits w r q T) (k : Gr w w') : RBits w' r q T := ⟨h.blk.gr k, h.row.gr k⟩
theorem RBits.chg {p : Nat → Prop} (h : RBits w r q T) (k : Chg p w w') (h1 : ¬ p r) (h2 : ¬ p q) : RBits w' r q T := ⟨h.blk.chg k h1, h.row.chg k h2⟩
theorem RBits.c0 (h : RBits w r q T) : w.cell? ⟨r, 0, none⟩ = some (.slice (some ⟨q, 0, none⟩) T.length T.length) := h.blk.at 0
theorem RBits.at (h : RBits w r q T) {k : Nat} (hk : k < T.length) : w.cell? ⟨q, k, none⟩ = some (.bool (T.getD k false)) := by
  rw [h.row.at k, List.getElem?_map, List.getElem?_eq_getElem hk, List.getD_eq_getElem?_getD, List.getElem?_eq_getElem hk]
  rfl
theorem RBits.ne (h : RBits w r q T) : r ≠ q := fun e => by subst e; have := bk_ty h.blk h.row; cases this
theorem RBits.put (h : RBits w r q T) (k : Nat) (b : Bool) : RBits (w.setCell ⟨q, k, none⟩ (.bool b)) r q (T.set k b) := by
  refine ⟨?_, ?_⟩
  · rw [List.length_set]; exact h.blk.other (a := ⟨q, k, none⟩) h.ne _
  · rw [List.map_set]; exact h.row.set k _
end
theorem bool_info : (Tryd.prog.info? 4).map (fun i => (i.zero, i.size, i.bytes)) = some (some (.bool false), 1, 1) := by kernel_rfl
theorem b_make (n : Nat) (h : n ≤ 65536) (w : World) : (Instr.makeSlice 112 (.int .i64 (n : Int)) (.int .i64 (n : Int))).run Tryd.prog w = .ok (.slice (some ⟨w.heap.size, 0, none⟩) n n) (w.alloc (.cells (madeCells #[.bool false] n) 4)) := by
  obtain ⟨i, hi, hz0, hz1, hz2⟩ := info_parts bool_info
  have := run_make (P := Tryd.prog) w 112 4 i (.bool false) Tryd.underlying112 hi hz0 .i64 .i64 (n : Int) (n : Int) (by omega) (by omega) (by rw [hz2]; omega) (by omega)
  rw [hz1, Int.toNat_natCast, Nat.mul_one] at this
  exact this
def RNewR (n : Nat) (w : World) (e : Ending) (w' : World) : Prop := ∃ r q, e = .returned (pT r) ∧ w.heap.size ≤ r ∧ w.heap.size ≤ q ∧ RBits w' r q (List.replicate n false) ∧ Gr w w'
theorem rnew_any (n : Nat) (w : World) (h2 : n ≤ 65536) : Calls Tryd.prog 21 #[.int .i64 (n : Int)] w (RNewR n w) := by
  have MK := b_make n h2 w
  have G : Gr w ((w.alloc (.cells (madeCells #[.bool false] n) 4)).alloc (.cells #[.slice (some ⟨w.heap.size, 0, none⟩) n n] 114)) := ((Gr.refl w).alloc _).alloc _
  have kB : Bk (w.alloc (.cells (madeCells #[.bool false] n) 4)) w.heap.size 4 ((List.replicate n false).map Value.bool) := by
    have : (madeCells #[.bool false] n) = ((List.replicate n false).map Value.bool).toArray := by
      apply Array.toList_inj.1
      rw [toList_madeCells_one, List.map_replicate]
    rw [this]
    exact Bk.new w 4 _
  have kT := Bk.new (w.alloc (.cells (madeCells #[.bool false] n) 4)) 114 [.slice (some ⟨w.heap.size, 0, none⟩) n n]
  rw [World.size_alloc] at kT
  have K : RBits ((w.alloc (.cells (madeCells #[.bool false] n) 4)).alloc (.cells #[.slice (some ⟨w.heap.size, 0, none⟩) n n] 114)) (w.heap.size + 1) w.heap.size (List.replicate n false) :=
    ⟨by rw [List.length_replicate]; exact kT, kB.alloc _⟩
  have HK := hid0 K
  have HG := hid0 G
  clear K kT kB G h2
  go_enter Tryd.func21, Tryd.ntmps21
  go_wp2
  go_ret
  exact ⟨_, _, rfl, by omega, Nat.le_refl _, HK.out, HG.out⟩
section
variable {w : World} {r q : Nat} {T : List Bool}
theorem rhas_any (h : RBits w r q T) (i : Int) : Calls Tryd.prog 57 #[pT r, .int .i64 i] w fun e w' => e = .returned (.bool (hasB T i)) ∧ w' = w := by
  have c0 := h.c0
  by_cases h1 : i < 0
  · rw [hasB_out (.inl h1)]
    have d1 : decide (i ≥ 0) = false := decide_eq_false (by omega)
    have d2 : decide (0 ≤ i) = false := decide_eq_false (by omega)
    go_enter Tryd.func57, Tryd.ntmps57
    go_wp2
    go_ret
    exact ⟨rfl, rfl⟩
  · obtain ⟨k, rfl⟩ : ∃ k : Nat, i = k := ⟨i.toNat, by omega⟩
    rw [hasB_nat]
    by_cases hk : k < T.length
    · have ck := h.at hk
      have d3 : (k : Int) < (T.length : Int) := by omega
      clear h
      generalize T.getD k false = D at *
      go_enter Tryd.func57, Tryd.ntmps57
      go_wp2
      go_ret
      exact ⟨rfl, rfl⟩
    · have e : T.getD k false = false := by rw [List.getD_eq_getElem?_getD, List.getElem?_eq_none (by omega)]; rfl
      rw [e]
      have d3 : ¬ (k : Int) < (T.length : Int) := by omega
      have d4 : decide ((k : Int) < (T.length : Int)) = false := decide_eq_false d3
      clear h e
      go_enter Tryd.func57, Tryd.ntmps57
      go_wp2
      go_ret
      exact ⟨rfl, rfl⟩
theorem radd_yes (h : RBits w r q T) (k : Nat) (hk : k < T.length) (hn : T.getD k false = false) : Calls Tryd.prog 54 #[pT r, .int .i64 (k : Int)] w fun e w' => e = .returned (.bool true) ∧ RBits w' r q (T.set k true) ∧ Chg (fun j => j = q) w w' := by
  have c0 := h.c0
  have ck := h.at hk
  rw [hn] at ck
  have fk := h.row.frozen k
  have RP := hid0 (h.put k true)
  have CP := hid0 (Chg.set (p := fun j => j = q) w (a := ⟨q, k, none⟩) rfl (.bool true))
  have d3 : (k : Int) < (T.length : Int) := by omega
  have d4 : ¬ (k : Int) ≥ (T.length : Int) := by omega
  clear h hn
  go_enter Tryd.func54, Tryd.ntmps54
  go_wp2
  go_ret
  exact ⟨rfl, RP.out, CP.out⟩
theorem radd_no (h : RBits w r q T) (i : Int) (hi : (i < 0 ∨ (T.length : Int) ≤ i) ∨ hasB T i = true) : Calls Tryd.prog 54 #[pT r, .int .i64 i] w fun e w' => e = .returned (.bool false) ∧ w' = w := by
  have c0 := h.c0
  by_cases h1 : i < 0
  · have d1 : decide (i < 0) = true := decide_eq_true h1
    clear h hi
    go_enter Tryd.func54, Tryd.ntmps54
    go_wp2
    go_ret
    exact ⟨rfl, rfl⟩
  · obtain ⟨k, rfl⟩ : ∃ k : Nat, i = k := ⟨i.toNat, by omega⟩
    by_cases hk : k < T.length
    · have ht : T.getD k false = true := by
        rcases hi with (h | h) | h
        · omega
        · omega
        · rwa [hasB_nat] at h
      have ck := h.at hk
      rw [ht] at ck
      have d3 : (k : Int) < (T.length : Int) := by omega
      have d4 : ¬ (k : Int) ≥ (T.length : Int) := by omega
      clear h hi ht h1
      go_enter Tryd.func54, Tryd.ntmps54
      go_wp2
      go_ret
      exact ⟨rfl, rfl⟩
    · have d4 : (k : Int) ≥ (T.length : Int) := by omega
      have d5 : decide ((k : Int) ≥ (T.length : Int)) = true := decide_eq_true d4
      clear h hi h1
      go_enter Tryd.func54, Tryd.ntmps54
      go_wp2
      go_ret
      exact ⟨rfl, rfl⟩
theorem rdel_yes (h : RBits w r q T) (k : Nat) (hk : k < T.length) (hn : T.getD k false = true) : Calls Tryd.prog 56 #[pT r, .int .i64 (k : Int)] w fun e w' => e = .returned (.bool true) ∧ RBits w' r q (T.set k false) ∧ Chg (fun j => j = q) w w' := by
  have HS := hid0 (rhas_any h (k : Int))
  rw [hasB_nat, hn] at HS
  have c0 := h.c0
  have ck := h.at hk
  have fk := h.row.frozen k
  have RP := hid0 (h.put k false)
  have CP := hid0 (Chg.set (p := fun j => j = q) w (a := ⟨q, k, none⟩) rfl (.bool false))
  have d3 : (k : Int) < (T.length : Int) := by omega
  clear h hn
  go_enter Tryd.func56, Tryd.ntmps56
  go_wp2_with (go_at_call 57; refine HS.out.mono ?_; rintro e w1 ⟨rfl, hw⟩; cases hw)
  go_ret
  exact ⟨rfl, RP.out, CP.out⟩
theorem rdel_no (h : RBits w r q T) (i : Int) (hi : hasB T i = false) : Calls Tryd.prog 56 #[pT r, .int .i64 i] w fun e w' => e = .returned (.bool false) ∧ w' = w := by
  have HS := hid0 (rhas_any h i)
  rw [hi] at HS
  clear h hi
  go_enter Tryd.func56, Tryd.ntmps56
  go_wp2_with (go_at_call 57; refine HS.out.mono ?_; rintro e w1 ⟨rfl, hw⟩; cases hw)
  go_ret
  exact ⟨rfl, rfl⟩
theorem rcount_any (h : RBits w r q T) (hl : T.length ≤ 65536) : Calls Tryd.prog 58 #[pT r] w fun e w' => e = .returned (.int .i64 ((cntT T : Nat) : Int)) ∧ w' = w := by
  have c0 := h.c0
  have H := hid0 h
  clear h
  obtain ⟨C, hC⟩ : ∃ C, C = fun i => T.getD i false := ⟨_, rfl⟩
  have HC := hid0 hC
  have RC : Hid (cnt C T.length = cntT T) := by rw [hC]; rfl
  clear hC
  generalize hn : T.length = n at *
  have HN := hid0 hn
  clear hn
  go_enter Tryd.func58, Tryd.ntmps58
  go_wp2
  go_loopg [3, 4] n (fun kx s3 s4 wr => ∃ k : Nat, s3 = .int .i64 ((cnt C k : Nat) : Int) ∧ s4 = .int .i64 (k : Int) ∧ k ≤ n ∧ kx = n - k ∧ wr = w)
  case atStart => exact ⟨0, rfl, rfl, Nat.zero_le _, rfl, rfl⟩
  case round =>
    obtain ⟨k, rfl, rfl, hk, rfl, rfl⟩ := hrel
    by_cases hlt : k < n
    · have hlt' : (k : Int) < (n : Int) := by omega
      have ck := H.out.at (k := k) (by rw [HN.out]; exact hlt)
      have hw : Hid (cnt C (k + 1) = cnt C k + (T.getD k false).toNat) := by show cnt C k + (C k).toNat = _; rw [HC.out]
      have hb1 := cnt_le C k
      generalize cnt C k = s at *
      have hs : s ≤ 65536 := by omega
      cases hD : T.getD k false with
      | true =>
        rw [hD] at ck hw
        clear hD hb1
        go_wp2
        go_roundg (n - (k + 1))
        case measure => omega
        case rel => exact ⟨k + 1, by rw [hw.out]; simp, by simp, by omega, rfl, rfl⟩
      | false =>
        rw [hD] at ck hw
        clear hD hb1
        go_wp2
        go_roundg (n - (k + 1))
        case measure => omega
        case rel => exact ⟨k + 1, by rw [hw.out]; simp, by simp, by omega, rfl, rfl⟩
    · have hge : ¬ (k : Int) < (n : Int) := by omega
      obtain rfl : k = n := by omega
      rw [RC.out]
      go_wp2
      go_ret
      exact ⟨rfl, rfl⟩
theorem rleast_any (h : RBits w r q T) (hl : T.length ≤ 65536) (fr : Int) (b : Bool) : Calls Tryd.prog 59 #[pT r, .int .i64 fr, .bool b] w fun e w' => ∃ x, e = .returned (.int .i64 x) ∧ IsLeast (pT_ T fr b) T.length x ∧ w' = w := by
  have c0 := h.c0
  have H := hid0 h
  clear h
  generalize hn : T.length = n at *
  have HN := hid0 hn
  clear hn
  go_enter Tryd.func59, Tryd.ntmps59
  go_wp2
  go_loopg [7] n (fun kx s7 wr => ∃ k : Nat, s7 = .int .i64 (k : Int) ∧ k ≤ n ∧ kx = n - k ∧ wr = w ∧ Hid (∀ j, j < k → pT_ T fr b j = false))
  case atStart => exact ⟨0, rfl, Nat.zero_le _, rfl, rfl, fun j hj => absurd hj (Nat.not_lt_zero _)⟩
  case round =>
    obtain ⟨k, rfl, hk, rfl, rfl, A⟩ := hrel
    by_cases hlt : k < n
    · have hlt' : (k : Int) < (n : Int) := by omega
      have ck := H.out.at (k := k) (by rw [HN.out]; exact hlt)
      have st : pT_ T fr b k = false → Hid (∀ j, j < k + 1 → pT_ T fr b j = false) := fun h j hj => by
        rcases Nat.lt_or_ge j k with h1 | h1
        · exact A.out j h1
        · obtain rfl : j = k := by omega
          exact h
      by_cases hge : fr ≤ (k : Int)
      · have d1 : decide ((k : Int) ≥ fr) = true := decide_eq_true hge
        have d2 : decide (fr ≤ (k : Int)) = true := decide_eq_true hge
        cases hD : (T.getD k false == b) with
        | true =>
          have L : Hid (IsLeast (pT_ T fr b) n (k : Int)) := .inr ⟨k, hlt, rfl, by unfold pT_; rw [d2, hD]; rfl, A.out⟩
          generalize T.getD k false = D at *
          clear st A
          go_wp2
          go_ret
          exact ⟨_, rfl, L.out, rfl⟩
        | false =>
          have A2 := st (by unfold pT_; rw [d2, hD]; rfl)
          generalize T.getD k false = D at *
          clear st A
          go_wp2
          go_roundg (n - (k + 1))
          case measure => omega
          case rel => exact ⟨k + 1, by simp, by omega, rfl, rfl, A2⟩
      · have d1 : decide ((k : Int) ≥ fr) = false := decide_eq_false hge
        have d2 : decide (fr ≤ (k : Int)) = false := decide_eq_false hge
        have A2 := st (by unfold pT_; rw [d2]; rfl)
        clear st A
        go_wp2
        go_roundg (n - (k + 1))
        case measure => omega
        case rel => exact ⟨k + 1, by simp, by omega, rfl, rfl, A2⟩
    · have hge : ¬ (k : Int) < (n : Int) := by omega
      have L : Hid (IsLeast (pT_ T fr b) n (-1)) := .inl ⟨rfl, fun j hj => A.out j (by omega)⟩
      clear A
      go_wp2
      go_ret
      exact ⟨_, rfl, L.out, rfl⟩
end
end Go.Proofs.YtjnjpjpgokdciaaDoor
