/- Contract of Open. -/
import Derived.Test.YtomklacjaadcaaaDoorHead
import Derived.Test.YtomklacjaadcaaaDoorClone
namespace Go.Proofs.YtomklacjaadcaaaDoor
open Go.RowKit Go.Sort

set_option maxRecDepth 20000 in
set_option maxHeartbeats 1600000 in
theorem open_no (ao : Option Addr) (n cap : Nat) (w : World) (z : Int) (H : Hid (Calls Tryd.prog 69 #[.slice ao n cap] w fun e w' => e = .returned (.tuple #[.int .i64 z, .bool false]) ∧ w' = w)) :
    Calls Tryd.prog 28 #[.slice ao n cap] w fun e w' => e = .returned (.tuple #[.slice none 0 0, .int .i64 33]) ∧ w' = w := by
  go_enter Tryd.func28, Tryd.ntmps28
  go_wp2_with (go_at_call 69; refine H.out.mono ?_; rintro e w' ⟨rfl, rfl⟩)
  go_ret2
  exact ⟨rfl, rfl⟩
/-- Where the body's slice begins. -/
abbrev bodyAt (b off cap : Nat) : Option Addr := if cap = 8 then some ⟨b, off, none⟩ else some ⟨b, off + 8, none⟩
theorem By.body {w : World} {b off cap : Nat} {l : List UInt8} (h : By w (some ⟨b, off, none⟩) l) (hc : l.length ≤ cap) : By w (bodyAt b off cap) (l.drop 8) := by
  unfold bodyAt
  split
  · intro i hi
    simp at hi
    omega
  · exact h.tail 8
set_option maxRecDepth 20000 in
set_option maxHeartbeats 1600000 in
theorem open_ends (b off cap : Nat) (m N : Nat) (_hcap : m + 8 ≤ cap) (_hN : N ≤ 8184) (hl : m < N) (w : World) (H : Hid (Calls Tryd.prog 69 #[.slice (some ⟨b, off, none⟩) (m + 8) cap] w fun e w' => e = .returned (.tuple #[.int .i64 N, .bool true]) ∧ w' = w)) :
    Calls Tryd.prog 28 #[.slice (some ⟨b, off, none⟩) (m + 8) cap] w fun e w' => e = .returned (.tuple #[.slice none 0 0, .int .i64 30]) ∧ w' = w := by
  go_enter Tryd.func28, Tryd.ntmps28
  go_wp2_with (go_at_call 69; refine H.out.mono ?_; rintro e w' ⟨rfl, rfl⟩)
  all_goals go_ret2
  all_goals exact ⟨rfl, rfl⟩
set_option maxRecDepth 20000 in
set_option maxHeartbeats 1600000 in
theorem open_left (b off cap : Nat) (m N : Nat) (hn : m + 8 ≤ 281474976710656) (hcap : m + 8 ≤ cap) (hN : N ≤ 8184) (hl : N < m) (w : World) (H : Hid (Calls Tryd.prog 69 #[.slice (some ⟨b, off, none⟩) (m + 8) cap] w fun e w' => e = .returned (.tuple #[.int .i64 N, .bool true]) ∧ w' = w)) :
    Calls Tryd.prog 28 #[.slice (some ⟨b, off, none⟩) (m + 8) cap] w fun e w' => e = .returned (.tuple #[.slice none 0 0, .int .i64 32]) ∧ w' = w := by
  go_enter Tryd.func28, Tryd.ntmps28
  go_wp2_with (go_at_call 69; refine H.out.mono ?_; rintro e w' ⟨rfl, rfl⟩)
  all_goals go_ret2
  all_goals exact ⟨rfl, rfl⟩
theorem gr0 {f : FuncId} {args : Array Value} {w : World} {v : Value} (h : Calls Tryd.prog f args w fun e w' => e = .returned v ∧ w' = w) : Calls Tryd.prog f args w fun e w' => e = .returned v ∧ ∃ q os', w' = grow (w.drewN q) os' :=
  h.mono fun _ _ ⟨h1, h2⟩ => ⟨h1, h2 ▸ Gr.refl w⟩
set_option maxRecDepth 20000 in
set_option maxHeartbeats 800000 in
theorem open_eq (b off cap : Nat) (l : List UInt8) (N : Nat) (hl : l.length = N + 8) (hcap : N + 8 ≤ cap) (hN : N ≤ 8184) (w : World) (hb : By w (some ⟨b, off, none⟩) l) (hR : RemIs w) (H : Hid (Calls Tryd.prog 69 #[.slice (some ⟨b, off, none⟩) (N + 8) cap] w fun e w' => e = .returned (.tuple #[.int .i64 N, .bool true]) ∧ w' = w)) :
    Calls Tryd.prog 28 #[.slice (some ⟨b, off, none⟩) (N + 8) cap] w fun e w' => ∃ v, e = .returned (.tuple #[v, .int .i64 (if num ((l.drop 4).take 4) = sumP (l.take 4) (l.drop 8) then 0 else 34)]) ∧ Own w' w.heap.size v (if num ((l.drop 4).take 4) = sumP (l.take 4) (l.drop 8) then l.drop 8 else []) ∧ Below w.heap.size w w' := by
  have h4 : ((l.drop 4).take 4).length = 4 := by simp; omega
  have h5 : (l.take 4).length = 4 := by simp; omega
  have h6 : (l.drop 8).length = N := by simp; omega
  have HN := hid' (fun q os cap => gr0 (number_at (cap := cap) h4 (by omega) ((hb.piece 4 4).mono (Gr.below ⟨q, os, rfl⟩))))
  have HS := hid' (fun q os c1 c2 => gr0 (sum_at (cap := c1) (cap2 := c2) h5 h6 (by omega) ((hb.head 4).mono (Gr.below ⟨q, os, rfl⟩)) (by omega) ((hb.body (cap := cap) (by omega)).mono (Gr.below ⟨q, os, rfl⟩)) (hR.mono (Gr.below ⟨q, os, rfl⟩))))
  have HB := hid' (hb.body (cap := cap) (by omega))
  clear hb hR
  have hx1 := num_lt ((l.drop 4).take 4)
  rw [h4] at hx1
  have hx2 := sumP_lt (l.take 4) (l.drop 8)
  generalize num ((l.drop 4).take 4) = X at *
  generalize sumP (l.take 4) (l.drop 8) = Y at *
  generalize l.drop 8 = body at *
  have hc8 : ∃ A, bodyAt b off cap = some A ∧ (cap = 8 ∧ A = ⟨b, off, none⟩ ∨ cap ≠ 8 ∧ A = ⟨b, off + 8, none⟩) := by
    unfold bodyAt
    by_cases h : cap = 8
    · exact ⟨_, by rw [if_pos h], .inl ⟨h, rfl⟩⟩
    · exact ⟨_, by rw [if_neg h], .inr ⟨h, rfl⟩⟩
  obtain ⟨A, hA, hc⟩ := hc8
  rw [hA] at HS HB
  have HC := hid' (fun q os (c : Nat) => clone_at (cap := c) h6 (by omega) (HB.out.mono (Gr.below (w := w) ⟨q, os, rfl⟩)))
  clear hA
  rcases hc with ⟨rfl, rfl⟩ | ⟨hc, rfl⟩
  · obtain rfl : N = 0 := by omega
    by_cases hXY : X = Y
    · have hb1 : ((X : Int) == (Y : Int)) = true := by simp [hXY]
      rw [if_pos hXY, if_pos hXY]
      clear hXY
      go_enter Tryd.func28, Tryd.ntmps28
      go_upto_region 9 with (go_at_call 69; refine H.out.mono ?_; rintro e w' ⟨rfl, rfl⟩)
      refine wp_region_quiet_grown (by kernel_rfl) (by kernel_rfl) ?_
      repeat (go_big_quiet_step (first
        | (go_at_call 70; refine Calls.grown_of (HN.out _ _ _))
        | (go_at_call 68; refine Calls.grown_of (HS.out _ _ _ _))))
      refine wpQuiet_nil ?_
      intro _ hw'
      obtain ⟨⟨nq, osq⟩, hw''⟩ := hw'
      subst hw''
      go_wp2_with (go_at_call 49; refine (HC.out _ _ _).mono ?_; rintro e w2 ⟨v, rfl, o2, g2⟩)
      go_ret2
      have hg := Gr.below (w := w') ⟨nq, osq, rfl⟩
      exact ⟨v, rfl, o2.low hg.size, hg.trans (g2.mono hg.size)⟩
    · have hb1 : ((X : Int) == (Y : Int)) = false := by simp; omega
      rw [if_neg hXY, if_neg hXY]
      clear hXY
      go_enter Tryd.func28, Tryd.ntmps28
      go_upto_region 9 with (go_at_call 69; refine H.out.mono ?_; rintro e w' ⟨rfl, rfl⟩)
      refine wp_region_quiet_grown (by kernel_rfl) (by kernel_rfl) ?_
      repeat (go_big_quiet_step (first
        | (go_at_call 70; refine Calls.grown_of (HN.out _ _ _))
        | (go_at_call 68; refine Calls.grown_of (HS.out _ _ _ _))))
      refine wpQuiet_nil ?_
      intro _ hw'
      obtain ⟨⟨nq, osq⟩, hw''⟩ := hw'
      subst hw''
      go_wp2
      go_ret2
      have hg := Gr.below (w := w') ⟨nq, osq, rfl⟩
      exact ⟨_, rfl, Own.nil _ _, hg⟩
  · by_cases hXY : X = Y
    · have hb1 : ((X : Int) == (Y : Int)) = true := by simp [hXY]
      rw [if_pos hXY, if_pos hXY]
      clear hXY
      go_enter Tryd.func28, Tryd.ntmps28
      go_upto_region 9 with (go_at_call 69; refine H.out.mono ?_; rintro e w' ⟨rfl, rfl⟩)
      refine wp_region_quiet_grown (by kernel_rfl) (by kernel_rfl) ?_
      repeat (go_big_quiet_step (first
        | (go_at_call 70; refine Calls.grown_of (HN.out _ _ _))
        | (go_at_call 68; refine Calls.grown_of (HS.out _ _ _ _))))
      refine wpQuiet_nil ?_
      intro _ hw'
      obtain ⟨⟨nq, osq⟩, hw''⟩ := hw'
      subst hw''
      go_wp2_with (go_at_call 49; refine (HC.out _ _ _).mono ?_; rintro e w2 ⟨v, rfl, o2, g2⟩)
      go_ret2
      have hg := Gr.below (w := w') ⟨nq, osq, rfl⟩
      exact ⟨v, rfl, o2.low hg.size, hg.trans (g2.mono hg.size)⟩
    · have hb1 : ((X : Int) == (Y : Int)) = false := by simp; omega
      rw [if_neg hXY, if_neg hXY]
      clear hXY
      go_enter Tryd.func28, Tryd.ntmps28
      go_upto_region 9 with (go_at_call 69; refine H.out.mono ?_; rintro e w' ⟨rfl, rfl⟩)
      refine wp_region_quiet_grown (by kernel_rfl) (by kernel_rfl) ?_
      repeat (go_big_quiet_step (first
        | (go_at_call 70; refine Calls.grown_of (HN.out _ _ _))
        | (go_at_call 68; refine Calls.grown_of (HS.out _ _ _ _))))
      refine wpQuiet_nil ?_
      intro _ hw'
      obtain ⟨⟨nq, osq⟩, hw''⟩ := hw'
      subst hw''
      go_wp2
      go_ret2
      have hg := Gr.below (w := w') ⟨nq, osq, rfl⟩
      exact ⟨_, rfl, Own.nil _ _, hg⟩
/-- What Open answers. -/
def openE (l : List UInt8) : Nat :=
  if l.length < 8 ∨ markN l ≠ 25680 ∨ 8184 < lenN l then 33
  else if l.length < lenN l + 8 then 30
  else if lenN l + 8 < l.length then 32
  else if num ((l.drop 4).take 4) = sumP (l.take 4) (l.drop 8) then 0 else 34
theorem open_any (ao : Option Addr) (cap : Nat) (l : List UInt8) (hl : l.length ≤ 140737488351232) (hcap : l.length ≤ cap) (w : World) (hb : By w ao l) (hR : RemIs w) :
    Calls Tryd.prog 28 #[.slice ao l.length cap] w fun e w' => ∃ v, e = .returned (.tuple #[v, .int .i64 (openE l : Nat)]) ∧ Own w' w.heap.size v (if openE l = 0 then l.drop 8 else []) ∧ Below w.heap.size w w' := by
  by_cases h8 : l.length < 8
  · have e : openE l = 33 := by unfold openE; rw [if_pos (.inl h8)]
    rw [e]
    refine (open_no ao _ cap w 0 (blen_short ao cap l h8 w)).mono ?_
    rintro e w' ⟨rfl, rfl⟩
    exact ⟨_, rfl, Own.nil _ _, Below.refl _ _⟩
  · obtain ⟨b, off, rfl, _⟩ := hb 0 (by omega)
    by_cases hm : markN l = 25680
    · have hB := blen_right b off cap l (by omega) (by omega) hcap w hb hm
      by_cases hn : lenN l ≤ 8184
      · rw [decide_eq_true hn] at hB
        have hno : ¬ (l.length < 8 ∨ markN l ≠ 25680 ∨ 8184 < lenN l) := by omega
        by_cases h1 : l.length < lenN l + 8
        · have e : openE l = 30 := by unfold openE; rw [if_neg hno, if_pos h1]
          obtain ⟨m, hmm⟩ : ∃ m, l.length = m + 8 := ⟨l.length - 8, by omega⟩
          rw [e]
          rw [hmm] at hB hcap h1 ⊢
          refine (open_ends b off cap m _ hcap hn (by omega) w hB).mono ?_
          rintro e w' ⟨rfl, rfl⟩
          exact ⟨_, rfl, Own.nil _ _, Below.refl _ _⟩
        · by_cases h2 : lenN l + 8 < l.length
          · have e : openE l = 32 := by unfold openE; rw [if_neg hno, if_neg h1, if_pos h2]
            obtain ⟨m, hmm⟩ : ∃ m, l.length = m + 8 := ⟨l.length - 8, by omega⟩
            rw [e]
            rw [hmm] at hB hcap h2 hl ⊢
            refine (open_left b off cap m _ (by omega) hcap hn (by omega) w hB).mono ?_
            rintro e w' ⟨rfl, rfl⟩
            exact ⟨_, rfl, Own.nil _ _, Below.refl _ _⟩
          · have hmm : l.length = lenN l + 8 := by omega
            have e : openE l = if num ((l.drop 4).take 4) = sumP (l.take 4) (l.drop 8) then 0 else 34 := by unfold openE; rw [if_neg hno, if_neg h1, if_neg h2]
            rw [hmm] at hB hcap
            have hO := open_eq b off cap l (lenN l) hmm hcap hn w hb hR hB
            rw [e]
            rw [← hmm] at hO
            refine hO.mono ?_
            rintro e w' ⟨v, rfl, h3, h4⟩
            by_cases hx : num ((l.drop 4).take 4) = sumP (l.take 4) (l.drop 8)
            · rw [if_pos hx] at h3 ⊢
              rw [if_pos hx, if_pos rfl]
              exact ⟨v, rfl, h3, h4⟩
            · rw [if_neg hx] at h3 ⊢
              rw [if_neg hx, if_neg (by decide)]
              exact ⟨v, rfl, h3, h4⟩
      · rw [decide_eq_false hn] at hB
        have e : openE l = 33 := by unfold openE; rw [if_pos (.inr (.inr (by omega)))]
        rw [e]
        refine (open_no _ _ cap w _ hB).mono ?_
        rintro e w' ⟨rfl, rfl⟩
        exact ⟨_, rfl, Own.nil _ _, Below.refl _ _⟩
    · have e : openE l = 33 := by unfold openE; rw [if_pos (.inr (.inl hm))]
      rw [e]
      refine (open_no _ _ cap w 0 (blen_wrong b off cap l (by omega) (by omega) hcap w hb hm)).mono ?_
      rintro e w' ⟨rfl, rfl⟩
      exact ⟨_, rfl, Own.nil _ _, Below.refl _ _⟩
end Go.Proofs.YtomklacjaadcaaaDoor
