/- The program's thinned: what is kept, in its order. -/
import Derived.Test.YtljdnahomhbenaaTh6
import Derived.Test.YtljdnahomhbenaaThT
namespace Go.Proofs.Ytljdnahomhbenaa
section
set_option linter.unusedSimpArgs false
set_option linter.unusedVariables false
open Go.RowKit Go.Sort

theorem Try.info84 : (Try.prog.info? 84).map (fun i => (i.zero, i.size, i.bytes)) = some (some (.agg #[.int .i64 0, .int .i64 0]), 2, 16) := by kernel_rfl
def flatS : List (Nat × Nat) → List Value
  | [] => []
  | p :: r => .int .i64 (p.1 : Int) :: .int .i64 (p.2 : Int) :: flatS r
theorem flatS_len (l : List (Nat × Nat)) : (flatS l).length = l.length * 2 := by
  induction l with
  | nil => rfl
  | cons p r ih => simp [flatS, ih]; omega
theorem flatS_append (l r : List (Nat × Nat)) : flatS (l ++ r) = flatS l ++ flatS r := by
  induction l with
  | nil => rfl
  | cons p t ih => simp [flatS, ih]
theorem flatS_one (l : List (Nat × Nat)) (p : Nat × Nat) : flatS (l ++ [p]) = flatS l ++ [.int .i64 (p.1 : Int), .int .i64 (p.2 : Int)] := by rw [flatS_append]; rfl
theorem flatS_two (l : List (Nat × Nat)) (p q : Nat × Nat) : flatS (l ++ [p, q]) = flatS l ++ [.int .i64 (p.1 : Int), .int .i64 (p.2 : Int), .int .i64 (q.1 : Int), .int .i64 (q.2 : Int)] := by rw [flatS_append]; rfl
theorem cells84 (w : World) (x0 x1 x2 x3 : Value) : ∀ (j : Nat) (u : Value), [x0, x1, x2, x3][j]? = some u → (w.alloc (.cells #[x0, x1, x2, x3] 84)).cell? ((⟨w.heap.size, 0, none⟩ : Addr).add j) = some u := by
  intro j u hj
  match j, hj with
  | 0, hj => simp at hj; subst hj; simp [Addr.add]
  | 1, hj => simp at hj; subst hj; simp [Addr.add]
  | 2, hj => simp at hj; subst hj; simp [Addr.add]
  | 3, hj => simp at hj; subst hj; simp [Addr.add]
theorem own_any84 {w : World} {base n : Nat} {sv : Value} {xs : List Value} (h : w.ownsRow base 84 2 sv n xs) : ∃ so c, sv = .slice so n c := by
  rcases h.2 with ⟨rfl, hn⟩ | ⟨g, cap, cur, rfl, _⟩
  · exact ⟨none, 0, by rw [hn]⟩
  · exact ⟨_, cap, rfl⟩
theorem own_apart {w : World} {base base' n m : Nat} {u v : Value} {xs ys : List Value} (h : w.ownsRow base 28 2 u n xs) (k : w.ownsRow base' 84 2 v m ys) : (u.ownBlock = none ∨ u.ownBlock ≠ v.ownBlock) ∧ (v.ownBlock = none ∨ v.ownBlock ≠ u.ownBlock) := by
  rcases h.2 with ⟨rfl, _⟩ | ⟨g, cap, cur, rfl, _, hg, _⟩
  · refine ⟨.inl rfl, ?_⟩
    rcases k.2 with ⟨rfl, _⟩ | ⟨g', cap', cur', rfl, _, hg', _⟩
    · exact .inl rfl
    · exact .inr (fun e => by cases e)
  · rcases k.2 with ⟨rfl, _⟩ | ⟨g', cap', cur', rfl, _, hg', _⟩
    · exact ⟨.inr (fun e => by cases e), .inl rfl⟩
    · have : g ≠ g' := fun e => by
        subst e
        rw [hg] at hg'
        cases hg'
      exact ⟨.inr (fun e => this (by simpa [Value.ownBlock] using e)), .inr (fun e => this (by simpa [Value.ownBlock] using e.symm))⟩
theorem thin_len (V : List (Int × Int)) (tol : Int) : ∀ (n i j : Nat), j - i = n → i < j → (thinP V tol i j).length ≤ j - i - 1 := by
  intro n
  induction n using Nat.strongRecOn with
  | ind n ih =>
    intro i j hn hij
    by_cases h : 0 < cutQ V tol i j
    · have hlt := cutQ_lt h
      rw [thin_yes h, List.length_append, List.length_cons]
      have a := ih _ (by omega) i (i + cutQ V tol i j) rfl (by omega)
      have b := ih _ (by omega) (i + cutQ V tol i j) j rfl (by omega)
      omega
    · rw [thin_not h]; simp
theorem stack_len (V : List (Int × Int)) (tol : Int) (st : List (Nat × Nat)) : st.length ≤ (stackP V tol st).length := by
  induction st with
  | nil => simp
  | cons s st ih =>
    unfold stackP at *
    rw [List.flatMap_cons, List.length_append, List.length_cons, List.length_cons]
    omega
def ptsAt (V : List (Int × Int)) (l : List Nat) : List (Int × Int) := l.map fun k => V.getD k (0, 0)
theorem ptsAt_len (V : List (Int × Int)) (l : List Nat) : (ptsAt V l).length = l.length := by unfold ptsAt; simp
theorem ptsAt_one (V : List (Int × Int)) (l : List Nat) (k : Nat) : ptsAt V (l ++ [k]) = ptsAt V l ++ [V.getD k (0, 0)] := by unfold ptsAt; simp
def keptL (V : List (Int × Int)) (tol : Int) : List Nat := (0 :: thinP V tol 0 (V.length - 1)) ++ [V.length - 1]
theorem mem_sub {V : List (Int × Int)} {i j : Nat} {p : Int × Int} (h : p ∈ sub V i j) : p ∈ V := by
  unfold sub at h
  exact List.mem_of_mem_drop (List.mem_of_mem_take h)
theorem Pts.sub {w : World} {b off : Nat} {V : List (Int × Int)} (h : Pts w (some ⟨b, off, none⟩) V) {i j : Nat} (hij : i ≤ j) (hj : j < V.length) : Pts w (some ⟨b, off + i * 2, none⟩) (Go.Proofs.Ytljdnahomhbenaa.sub V i j) := fun k hk => by
  rw [sub_len hij hj] at hk
  obtain ⟨b', o', e, h1, h2⟩ := h (i + k) (by omega)
  cases e
  refine ⟨b, off + i * 2, rfl, ?_, ?_⟩
  · rw [sub_get hk, show off + i * 2 + k * 2 = off + (i + k) * 2 by omega]; exact h1
  · rw [sub_get hk, show off + i * 2 + k * 2 + 1 = off + (i + k) * 2 + 1 by omega]; exact h2

set_option maxRecDepth 20000 in
set_option maxHeartbeats 8000000 in
theorem thinned_any (b off cap : Nat) (V : List (Int × Int)) (tol : Int) (w : World) (hl : V.length ≤ 4096) (h3 : 3 ≤ V.length) (hc : V.length ≤ cap) (hcc : cap ≤ 9223372036854775807) (hV : ∀ p ∈ V, latP p) (ht : 0 ≤ tol ∧ tol ≤ 3037000498) (hP : Pts w (some ⟨b, off, none⟩) V) :
    Calls Try.prog 49 #[.slice (some ⟨b, off, none⟩) V.length cap, .int .i64 tol] w fun e w' => ∃ sv, e = .returned sv ∧ w'.ownsRow w.heap.size 28 2 sv (keptL V tol).length (flat (ptsAt V (keptL V tol))) ∧ Below w.heap.size w w' := by
  obtain ⟨i0, hi, hz0, hz1, hz2⟩ := info_parts Try.info28
  obtain ⟨i1, hj, hy0, hy1, hy2⟩ := info_parts Try.info84
  have HP := hid0 hP
  have CU : Hid (∀ i j w', i < j → j < V.length → Below w.heap.size w w' → Calls Try.prog 77 #[.slice (some ⟨b, off + i * 2, none⟩) (j + 1 - i) (cap - i), .int .i64 tol] w' fun e w'' => e = .returned (.tuple #[.int .i64 (cutQ V tol i j), .bool (decide (0 < cutQ V tol i j))]) ∧ Gr w' w'') := fun i j w' hij hj hb => by
    have hL := sub_len (V := V) (i := i) (j := j) (by omega) hj
    have := cutat_any b (off + i * 2) (cap - i) (sub V i j) tol w' (by omega) (by omega) (fun p hp => hV p (mem_sub hp)) ht ((hP.sub (by omega) hj).mono hb)
    rw [hL] at this
    exact this
  have KL : Hid (keptL V tol = (0 :: thinP V tol 0 (V.length - 1)) ++ [V.length - 1]) := rfl
  have TL : Hid ((0 :: thinP V tol 0 (V.length - 1)).length ≤ V.length - 1) := by
    have := thin_len V tol _ 0 (V.length - 1) rfl (by omega)
    unfold Hid
    rw [List.length_cons]
    omega
  have S0 : Hid (stackP V tol [(0, V.length - 1)] = 0 :: thinP V tol 0 (V.length - 1)) := by unfold Hid stackP; simp
  clear hP hV ht
  generalize keptL V tol = KK at *
  generalize 0 :: thinP V tol 0 (V.length - 1) = TT at *
  obtain ⟨n, hn⟩ : ∃ n, V.length = n := ⟨_, rfl⟩
  rw [hn] at hl h3 hc CU KL TL S0 ⊢
  have HN := hid0 hn
  clear hn
  go_enter Try.func49, Try.ntmps49
  go_wp2
  have O1 : (w.alloc (.cells #[.int .i64 0, .int .i64 ((n : Int) - 1)] 84)).ownsRow w.heap.size 84 2 (.slice (some ⟨w.heap.size, 0, none⟩) 1 1) 1 (flatS [(0, n - 1)]) := by
    have := World.ownsRow_lit (base := w.heap.size) (e := 84) (size := 2) w #[.int .i64 0, .int .i64 ((n : Int) - 1)] 1 (Nat.le_refl _) (by unfold maxLen; omega) rfl
    have e : flatS [(0, n - 1)] = [.int .i64 0, .int .i64 ((n : Int) - 1)] := by
      simp only [flatS]
      rw [show ((n - 1 : Nat) : Int) = (n : Int) - 1 by omega]
      rfl
    rw [e]
    exact this
  have hb0 : Below w.heap.size w (w.alloc (.cells #[.int .i64 0, .int .i64 ((n : Int) - 1)] 84)) := ((Gr.refl w).alloc _).below
  generalize w.alloc (.cells #[.int .i64 0, .int .i64 ((n : Int) - 1)] 84) = W0 at *
  go_loopw [5, 7] (fun k5 k7 wr => ∃ (kp : List Nat) (st : List (Nat × Nat)), Hid (kp ++ stackP V tol st = TT) ∧ Hid (∀ s ∈ st, s.1 < s.2 ∧ s.2 < n) ∧ kp.length + st.length ≤ n ∧ wr.ownsRow w.heap.size 28 2 k5 kp.length (flat (ptsAt V kp)) ∧ wr.ownsRow w.heap.size 84 2 k7 st.length (flatS st.reverse) ∧ Below w.heap.size w wr) (fun k5 k7 _ => 2 * (n - (lenV k5 + lenV k7)) + lenV k7)
  case atStart => exact ⟨[], [(0, n - 1)], by rw [← S0.out]; rfl, fun s hs => by simp at hs; subst hs; exact ⟨by omega, by omega⟩, by simp; omega, World.ownsRow_nil _ _ _ _, O1, hb0⟩
  case round =>
    clear O1 hb0 S0
    obtain ⟨kp, st, hK, hS, hle, O5, O7, hb⟩ := hrel
    obtain ⟨so5, c5, rfl⟩ := own_any O5
    cases st with
    | nil =>
      obtain ⟨so7, c7, rfl⟩ := own_any84 O7
      simp only [List.length_nil] at *
      have eT : kp = TT := by have := hK.out; simpa [stackP] using this
      clear hK hS O7
      rw [← eT] at KL TL
      clear eT
      obtain ⟨b', o', e, p0, p1⟩ := (HP.out.mono hb) (n - 1) (by rw [HN.out]; omega)
      cases e
      obtain ⟨q, hq⟩ : ∃ q, V.getD (n - 1) (0, 0) = q := ⟨_, rfl⟩
      rw [hq] at p0 p1
      have HQ := hid0 hq
      clear hq
      have hkl : kp.length ≤ n - 1 := TL.out
      have hsz := hb.size
      go_wp2_with (at_builtin; refine wpList_append_own _ rfl (.tmp 68) (.tmp 73) 22 rfl w.heap.size 28 i0 (.agg #[.int .i32 0, .int .i32 0]) 2 8 Try.underlying22 hi hz0 hz1 hz2 rfl (by decide) _ kp.length _ rfl (O5.alloc _) ⟨wr.heap.size, 0, none⟩ 1 1 [.int .i32 q.1, .int .i32 q.2] rfl rfl (one_cells _ _ _) (fun u hu => by simp at hu; rcases hu with rfl | rfl <;> rfl) (by unfold maxLen; omega) (by omega) (by simp; omega) ?_)
      intro sv w1 hown1 hgrow _
      have hb1 : Below w.heap.size w w1 := (hb.alloc hsz _).grown hgrow (by simp; omega) (fun j hj => (O5.lt j hj).1)
      clear hgrow
      go_wp2
      go_ret
      refine ⟨_, rfl, ?_, hb1⟩
      rw [KL.out, ptsAt_one, flat_one, List.length_append, HQ.out]
      exact hown1
    | cons s st =>
      obtain ⟨i, j⟩ := s
      obtain ⟨g, c7, rfl, hc7, hg⟩ := own2_shape O7
      obtain ⟨hij, hjn⟩ := hS.out (i, j) (by simp)
      dsimp only at hij hjn
      rw [List.reverse_cons, flatS_one] at O7
      simp only [List.length_cons] at *
      have HS' : Hid (∀ s ∈ st, s.1 < s.2 ∧ s.2 < n) := fun s hs => hS.out s (by simp [hs])
      clear hS
      have hlr : (flatS st.reverse).length = st.length * 2 := by rw [flatS_len, List.length_reverse]
      have q0 : wr.cell? ⟨g, st.length * 2, none⟩ = some (.int .i64 (i : Int)) := by
        rw [O7.cellAt (st.length * 2) (by omega), List.getElem?_append_right (by omega), hlr, Nat.sub_self]
        rfl
      have q1 : wr.cell? ⟨g, st.length * 2 + 1, none⟩ = some (.int .i64 (j : Int)) := by
        rw [O7.cellAt (st.length * 2 + 1) (by omega), List.getElem?_append_right (by omega), hlr, show st.length * 2 + 1 - st.length * 2 = 1 by omega]
        rfl
      have O8 := Go.ownsRow_pop hlr O7
      have XC := hid0 (stack_cut (V := V) (tol := tol) (i := i) (j := j) (st := st))
      have XK := hid0 (stack_keep (V := V) (tol := tol) (i := i) (j := j) (st := st))
      have CQ := hid0 (cutQ_lt (V := V) (tol := tol) (i := i) (j := j))
      obtain ⟨m, hm⟩ : ∃ m, st.length = m := ⟨_, rfl⟩
      rw [hm] at hle q0 q1 O8 hc7 ⊢
      have HM := hid0 hm
      clear hm O7 hlr
      have CC := hid0 (CU.out i j)
      obtain ⟨ct, hct⟩ : ∃ ct, cutQ V tol i j = ct := ⟨_, rfl⟩
      rw [hct] at CC XC XK CQ
      clear hct
      have hsz := hb.size
      go_upto_region 8 with fail
      have n0 := Hs.new wr 84 #[.int .i64 (i : Int), .int .i64 (j : Int)]
      replace O5 := O5.alloc (.cells #[.int .i64 (i : Int), .int .i64 (j : Int)] 84)
      replace O8 := O8.alloc (.cells #[.int .i64 (i : Int), .int .i64 (j : Int)] 84)
      replace hb := hb.alloc hsz (.cells #[.int .i64 (i : Int), .int .i64 (j : Int)] 84)
      clear q0 q1 hsz
      obtain ⟨B9, hB9⟩ : ∃ B9, B9 = wr.heap.size := ⟨_, rfl⟩
      rw [← hB9] at n0 ⊢
      clear hB9
      generalize wr.alloc (.cells #[.int .i64 (i : Int), .int .i64 (j : Int)] 84) = W1 at *
      have r0 : W1.cell? ⟨B9, 0, none⟩ = some (.int .i64 (i : Int)) := n0.cell rfl
      have r1 : W1.cell? ⟨B9, 1, none⟩ = some (.int .i64 (j : Int)) := n0.cell rfl
      have hjc : j + 1 ≤ cap := by omega
      have hic : ¬ cap = i := by omega
      go_upto_region 9 with (go_at_call 77; refine (CC.out _ hij hjn hb).mono ?_; rintro e w2 ⟨rfl, g2⟩; clear CC)
      replace O5 := own2_gr O5 g2
      replace O8 := own2_gr O8 g2
      replace hb := hb.trans (g2.below.mono hb.size)
      replace n0 := n0.gr g2
      clear r0 r1 g2
      have r0 : w2.cell? ⟨B9, 0, none⟩ = some (.int .i64 (i : Int)) := n0.cell rfl
      have r1 : w2.cell? ⟨B9, 1, none⟩ = some (.int .i64 (j : Int)) := n0.cell rfl
      have hsz := hb.size
      have AP := own_apart O5 O8
      have HAP := hid0 AP
      clear AP
      by_cases hct : 0 < ct
      · have hctb : decide (0 < ct) = true := decide_eq_true hct
        have hlt : ct < j - i := CQ.out hct
        have EX := hid0 (XC.out hct)
        clear XC XK CQ
        rw [hctb]
        go_wp2_with (at_builtin; refine wpList_append_own _ rfl (.tmp 57) (.tmp 66) 85 rfl w.heap.size 84 i1 (.agg #[.int .i64 0, .int .i64 0]) 2 16 Try.underlying85 hj hy0 hy1 hy2 rfl (by decide) _ m _ rfl (O8.alloc _) ⟨w2.heap.size, 0, none⟩ 2 2 [.int .i64 ((ct : Int) + (i : Int)), .int .i64 (j : Int), .int .i64 (i : Int), .int .i64 ((ct : Int) + (i : Int))] rfl rfl (cells84 _ _ _ _ _) (fun u hu => by simp at hu; rcases hu with rfl | rfl | rfl | rfl <;> rfl) (by unfold maxLen; omega) (by omega) (by simp; omega) ?_)
        intro sv w3 hown1 hgrow _
        have hb1 : Below w.heap.size w w3 := (hb.alloc hsz _).grown hgrow (by simp; omega) (fun j hj => (O8.lt j hj).1)
        have O5' := (O5.alloc (.cells #[.int .i64 ((ct : Int) + (i : Int)), .int .i64 (j : Int), .int .i64 (i : Int), .int .i64 ((ct : Int) + (i : Int))] 84)).kept hgrow HAP.out.1
        clear hgrow HAP O5 O8 hb r0 r1 n0
        obtain ⟨so7, c7', rfl⟩ := own_any84 hown1
        go_wp2
        go_roundw
        case rel =>
          refine ⟨kp, (i, i + ct) :: (i + ct, j) :: st, ?_, ?_, ?_, O5', ?_, hb1⟩
          · unfold Hid
            rw [← EX.out]
            exact hK.out
          · intro s hs
            simp only [List.mem_cons] at hs
            rcases hs with rfl | rfl | hs
            · exact ⟨by dsimp only; omega, by dsimp only; omega⟩
            · exact ⟨by dsimp only; omega, by dsimp only; omega⟩
            · exact HS'.out s hs
          · have h1 := TL.out
            have h2 := stack_len V tol ((i, i + ct) :: (i + ct, j) :: st)
            rw [← hK.out, EX.out, List.length_append] at h1
            omega
          · rw [List.reverse_cons, List.reverse_cons, List.append_assoc, List.singleton_append, flatS_two, List.length_cons, List.length_cons, HM.out]
            dsimp only
            rw [show ((i + ct : Nat) : Int) = (ct : Int) + (i : Int) by omega]
            exact hown1
        case measure =>
          have h1 := TL.out
          have h2 := stack_len V tol ((i, i + ct) :: (i + ct, j) :: st)
          rw [← hK.out, EX.out, List.length_append] at h1
          simp only [List.length_cons, HM.out] at h2
          simp [lenV]
          omega
      · have hctb : decide (0 < ct) = false := decide_eq_false hct
        have EX := hid0 (XK.out hct)
        clear XC XK CQ
        rw [hctb]
        obtain ⟨b', o', e, p0, p1⟩ := (HP.out.mono hb) i (by rw [HN.out]; omega)
        cases e
        obtain ⟨q, hq⟩ : ∃ q, V.getD i (0, 0) = q := ⟨_, rfl⟩
        rw [hq] at p0 p1
        have HQ := hid0 hq
        clear hq
        go_wp2_with (at_builtin; refine wpList_append_own _ rfl (.tmp 45) (.tmp 51) 22 rfl w.heap.size 28 i0 (.agg #[.int .i32 0, .int .i32 0]) 2 8 Try.underlying22 hi hz0 hz1 hz2 rfl (by decide) _ kp.length _ rfl (O5.alloc _) ⟨w2.heap.size, 0, none⟩ 1 1 [.int .i32 q.1, .int .i32 q.2] rfl rfl (one_cells _ _ _) (fun u hu => by simp at hu; rcases hu with rfl | rfl <;> rfl) (by unfold maxLen; omega) (by omega) (by simp; omega) ?_)
        intro sv w3 hown1 hgrow _
        have hb1 : Below w.heap.size w w3 := (hb.alloc hsz _).grown hgrow (by simp; omega) (fun j hj => (O5.lt j hj).1)
        have O8' := (O8.alloc (.cells #[.int .i32 q.1, .int .i32 q.2] 28)).kept hgrow HAP.out.2
        clear hgrow HAP O5 O8 hb r0 r1 n0 p0 p1
        obtain ⟨so5', c5', rfl⟩ := own_any hown1
        go_wp2
        go_roundw
        case rel =>
          refine ⟨kp ++ [i], st, ?_, HS', ?_, ?_, ?_, hb1⟩
          · unfold Hid
            rw [List.append_assoc, List.singleton_append, ← EX.out]
            exact hK.out
          · rw [List.length_append, HM.out]; simp; omega
          · rw [ptsAt_one, flat_one, List.length_append, HQ.out]
            exact hown1
          · rw [HM.out]; exact O8'
        case measure =>
          simp [lenV]
          omega
end
end Go.Proofs.Ytljdnahomhbenaa
