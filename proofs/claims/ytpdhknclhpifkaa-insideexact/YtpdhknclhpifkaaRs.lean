/- The reference of inside: rises, falls. -/
import Derived.Test.YtpdhknclhpifkaaRr
namespace Go.Proofs.Ytpdhknclhpifkaa
open Go.RowKit Go.Shelf Go.Sort

def riseI (p a b : Int × Int) : Int := if a.2 ≤ p.2 ∧ p.2 < b.2 ∧ 0 < turnP a b p then 1 else 0
def fallI (p a b : Int × Int) : Int := if b.2 ≤ p.2 ∧ p.2 < a.2 ∧ 0 < turnP b a p then 1 else 0
theorem riseI_bd (p a b : Int × Int) : 0 ≤ riseI p a b ∧ riseI p a b ≤ 1 := by unfold riseI; split <;> omega
theorem fallI_bd (p a b : Int × Int) : 0 ≤ fallI p a b ∧ fallI p a b ≤ 1 := by unfold fallI; split <;> omega

set_option maxRecDepth 100000 in
set_option maxHeartbeats 8000000 in
theorem rises_any (ao : Option Addr) (cap : Nat) (L : List (Int × Int)) (hL : All32 L) (hlen : L.length ≤ 17592186043904) (p : Int × Int) (hp : P32 p) (w : World) (hP : Pts w ao L) :
    Calls Try.prog 74 #[.slice ao L.length cap, pt p.1 p.2] w fun e w' => e = .returned (.int .i64 (sumZ (riseI p) L L.length)) ∧ Below w.heap.size w w' := by
  have g : Gr w (w.alloc (.cells #[.int .i32 p.1, .int .i32 p.2] 31)) := (Gr.refl _).alloc _
  have q := PtB.new w p
  have HP : Hid (Pts w ao L) := hP
  clear hP
  go_enter Try.func74, Try.ntmps74
  go_wp2
  go_loopw [5, 6] (fun c i wr => ∃ (k : Nat) (s : Int), k ≤ L.length ∧ i = .int .i64 k ∧ c = .int .i64 s ∧ Hid (s = sumZ (riseI p) L k) ∧ 0 ≤ s ∧ s ≤ k ∧ Below (w.alloc (.cells #[.int .i32 p.1, .int .i32 p.2] 31)).heap.size (w.alloc (.cells #[.int .i32 p.1, .int .i32 p.2] 31)) wr) (fun _ i _ => L.length - (intOf i).toNat)
  case atStart => exact ⟨0, 0, by omega, rfl, rfl, (by exact rfl), by omega, by omega, Below.refl _ _⟩
  case round =>
    obtain ⟨k, s, hk, rfl, rfl, hs, hs0, hs1, hB⟩ := hrel
    have hBw : Below w.heap.size w wr := g.below.trans (hB.mono g.size)
    by_cases hlt : k < L.length
    · obtain ⟨b, off, rfl, c0, c1⟩ := (HP.out.mono hBw).at hlt
      have qw := q.mono hB q.lt
      have C : Hid (∀ W, Below wr.heap.size wr W → Calls Try.prog 70 #[.slice (some ⟨b, off, none⟩) L.length cap, .int .i64 k] W fun e w' => e = .returned (pt (pAt L (k + 1)).1 (pAt L (k + 1)).2) ∧ Gr W w') :=
        fun W hW => rnext_any _ cap L hlen k hlt _ ((HP.out.mono hBw).mono hW)
      have D : Hid (∀ W, Calls Try.prog 109 #[pt (pAt L k).1 (pAt L k).2, pt (pAt L (k + 1)).1 (pAt L (k + 1)).2, pt p.1 p.2] W fun e w' => e = .returned (.int .i64 (turnP (pAt L k) (pAt L (k + 1)) p)) ∧ Below W.heap.size W w') :=
        fun W => rturn_any _ _ _ _ _ _ (pAt_32 hL _).1 (pAt_32 hL _).2 (pAt_32 hL _).1 (pAt_32 hL _).2 hp.1 hp.2 W
      have hst : Hid (sumZ (riseI p) L (k + 1) = s + if (pAt L k).2 ≤ p.2 ∧ p.2 < (pAt L (k + 1)).2 ∧ 0 < turnP (pAt L k) (pAt L (k + 1)) p then 1 else 0) := by unfold Hid; rw [sumZ_succ, ← hs.out]; rfl
      have kA := PtB.new wr (pAt L k)
      have gA : Gr wr (wr.alloc (.cells #[.int .i32 (pAt L k).1, .int .i32 (pAt L k).2] 31)) := (Gr.refl _).alloc _
      have qA := qw.gr gA
      have e1 : wrap64 (s + 1) = s + 1 := by unfold wrap64; omega
      clear hs
      generalize turnP (pAt L k) (pAt L (k + 1)) p = t at *
      generalize pAt L (k + 1) = A' at *
      generalize pAt L k = A at *
      by_cases h1 : A.2 ≤ p.2
      · by_cases h2 : p.2 < A'.2
        · by_cases h3 : 0 < t
          · have hs2 : Hid (s + 1 = sumZ (riseI p) L (k + 1)) := by unfold Hid; rw [hst.out]; simp [h1, h2, h3]
            clear hst
            go_wp2_with (first | (go_at_call 70; refine (C.out _ gA.below).mono ?_; rintro e w1 ⟨rfl, g1⟩; have a0 := fun o => ((kA.gr g1).alloc o).c0; have a1 := fun o => ((kA.gr g1).alloc o).c1; have p0 := fun o => ((qA.gr g1).alloc o).c0; have p1 := fun o => ((qA.gr g1).alloc o).c1) | (go_at_call 109; refine (D.out _).mono ?_; rintro e w2 ⟨rfl, g2⟩))
            have gw := gA.trans (g1.alloc (.cells #[.int .i32 A'.1, .int .i32 A'.2] 31))
            have hB2 := hB.trans ((gw.below.trans (g2.mono gw.size)).mono hB.size)
            go_roundw
            case rel => exact ⟨k + 1, s + 1, by omega, by go_num, by go_num, hs2, by omega, by omega, hB2⟩
            case measure => simp [intOf]; omega
          · have hs2 : Hid (s = sumZ (riseI p) L (k + 1)) := by unfold Hid; rw [hst.out]; simp [h1, h2, h3]
            clear hst
            go_wp2_with (first | (go_at_call 70; refine (C.out _ gA.below).mono ?_; rintro e w1 ⟨rfl, g1⟩; have a0 := fun o => ((kA.gr g1).alloc o).c0; have a1 := fun o => ((kA.gr g1).alloc o).c1; have p0 := fun o => ((qA.gr g1).alloc o).c0; have p1 := fun o => ((qA.gr g1).alloc o).c1) | (go_at_call 109; refine (D.out _).mono ?_; rintro e w2 ⟨rfl, g2⟩))
            have gw := gA.trans (g1.alloc (.cells #[.int .i32 A'.1, .int .i32 A'.2] 31))
            have hB2 := hB.trans ((gw.below.trans (g2.mono gw.size)).mono hB.size)
            go_roundw
            case rel => exact ⟨k + 1, s, by omega, by go_num, rfl, hs2, by omega, by omega, hB2⟩
            case measure => simp [intOf]; omega
        · have hs2 : Hid (s = sumZ (riseI p) L (k + 1)) := by unfold Hid; rw [hst.out]; simp [h1, h2]
          clear hst
          go_wp2_with (first | (go_at_call 70; refine (C.out _ gA.below).mono ?_; rintro e w1 ⟨rfl, g1⟩; have a0 := fun o => ((kA.gr g1).alloc o).c0; have a1 := fun o => ((kA.gr g1).alloc o).c1; have p0 := fun o => ((qA.gr g1).alloc o).c0; have p1 := fun o => ((qA.gr g1).alloc o).c1))
          have gw := gA.trans (g1.alloc (.cells #[.int .i32 A'.1, .int .i32 A'.2] 31))
          have hB2 := hB.trans (gw.below.mono hB.size)
          go_roundw
          case rel => exact ⟨k + 1, s, by omega, by go_num, rfl, hs2, by omega, by omega, hB2⟩
          case measure => simp [intOf]; omega
      · have hs2 : Hid (s = sumZ (riseI p) L (k + 1)) := by unfold Hid; rw [hst.out]; simp [h1]
        clear hst
        go_wp2_with (first | (go_at_call 70; refine (C.out _ gA.below).mono ?_; rintro e w1 ⟨rfl, g1⟩; have a0 := fun o => ((kA.gr g1).alloc o).c0; have a1 := fun o => ((kA.gr g1).alloc o).c1; have p0 := fun o => ((qA.gr g1).alloc o).c0; have p1 := fun o => ((qA.gr g1).alloc o).c1))
        have gw := gA.trans (g1.alloc (.cells #[.int .i32 A'.1, .int .i32 A'.2] 31))
        have hB2 := hB.trans (gw.below.mono hB.size)
        go_roundw
        case rel => exact ⟨k + 1, s, by omega, by go_num, rfl, hs2, by omega, by omega, hB2⟩
        case measure => simp [intOf]; omega
    · have hkn : k = L.length := by omega
      have hR : Hid (sumZ (riseI p) L L.length = s) := by unfold Hid; rw [hs.out, hkn]
      clear hs
      subst hkn
      go_wp2
      go_ret
      exact ⟨by rw [hR.out]; rfl, hBw⟩

set_option maxRecDepth 100000 in
set_option maxHeartbeats 8000000 in
theorem falls_any (ao : Option Addr) (cap : Nat) (L : List (Int × Int)) (hL : All32 L) (hlen : L.length ≤ 17592186043904) (p : Int × Int) (hp : P32 p) (w : World) (hP : Pts w ao L) :
    Calls Try.prog 75 #[.slice ao L.length cap, pt p.1 p.2] w fun e w' => e = .returned (.int .i64 (sumZ (fallI p) L L.length)) ∧ Below w.heap.size w w' := by
  have g : Gr w (w.alloc (.cells #[.int .i32 p.1, .int .i32 p.2] 31)) := (Gr.refl _).alloc _
  have q := PtB.new w p
  have HP : Hid (Pts w ao L) := hP
  clear hP
  go_enter Try.func75, Try.ntmps75
  go_wp2
  go_loopw [5, 6] (fun c i wr => ∃ (k : Nat) (s : Int), k ≤ L.length ∧ i = .int .i64 k ∧ c = .int .i64 s ∧ Hid (s = sumZ (fallI p) L k) ∧ 0 ≤ s ∧ s ≤ k ∧ Below (w.alloc (.cells #[.int .i32 p.1, .int .i32 p.2] 31)).heap.size (w.alloc (.cells #[.int .i32 p.1, .int .i32 p.2] 31)) wr) (fun _ i _ => L.length - (intOf i).toNat)
  case atStart => exact ⟨0, 0, by omega, rfl, rfl, (by exact rfl), by omega, by omega, Below.refl _ _⟩
  case round =>
    obtain ⟨k, s, hk, rfl, rfl, hs, hs0, hs1, hB⟩ := hrel
    have hBw : Below w.heap.size w wr := g.below.trans (hB.mono g.size)
    by_cases hlt : k < L.length
    · obtain ⟨b, off, rfl, c0, c1⟩ := (HP.out.mono hBw).at hlt
      have qw := q.mono hB q.lt
      have C : Hid (∀ W, Below wr.heap.size wr W → Calls Try.prog 70 #[.slice (some ⟨b, off, none⟩) L.length cap, .int .i64 k] W fun e w' => e = .returned (pt (pAt L (k + 1)).1 (pAt L (k + 1)).2) ∧ Gr W w') :=
        fun W hW => rnext_any _ cap L hlen k hlt _ ((HP.out.mono hBw).mono hW)
      have D : Hid (∀ W, Calls Try.prog 109 #[pt (pAt L (k + 1)).1 (pAt L (k + 1)).2, pt (pAt L k).1 (pAt L k).2, pt p.1 p.2] W fun e w' => e = .returned (.int .i64 (turnP (pAt L (k + 1)) (pAt L k) p)) ∧ Below W.heap.size W w') :=
        fun W => rturn_any _ _ _ _ _ _ (pAt_32 hL _).1 (pAt_32 hL _).2 (pAt_32 hL _).1 (pAt_32 hL _).2 hp.1 hp.2 W
      have hst : Hid (sumZ (fallI p) L (k + 1) = s + if (pAt L (k + 1)).2 ≤ p.2 ∧ p.2 < (pAt L k).2 ∧ 0 < turnP (pAt L (k + 1)) (pAt L k) p then 1 else 0) := by unfold Hid; rw [sumZ_succ, ← hs.out]; rfl
      have kA := PtB.new wr (pAt L k)
      have gA : Gr wr (wr.alloc (.cells #[.int .i32 (pAt L k).1, .int .i32 (pAt L k).2] 31)) := (Gr.refl _).alloc _
      have qA := qw.gr gA
      have e1 : wrap64 (s + 1) = s + 1 := by unfold wrap64; omega
      clear hs
      generalize turnP (pAt L (k + 1)) (pAt L k) p = t at *
      generalize pAt L (k + 1) = A' at *
      generalize pAt L k = A at *
      by_cases h1 : A'.2 ≤ p.2
      · by_cases h2 : p.2 < A.2
        · by_cases h3 : 0 < t
          · have hs2 : Hid (s + 1 = sumZ (fallI p) L (k + 1)) := by unfold Hid; rw [hst.out]; simp [h1, h2, h3]
            clear hst
            go_wp2_with (first | (go_at_call 70; refine (C.out _ gA.below).mono ?_; rintro e w1 ⟨rfl, g1⟩; have a0 := fun o => ((kA.gr g1).alloc o).c0; have a1 := fun o => ((kA.gr g1).alloc o).c1; have p0 := fun o => ((qA.gr g1).alloc o).c0; have p1 := fun o => ((qA.gr g1).alloc o).c1) | (go_at_call 109; refine (D.out _).mono ?_; rintro e w2 ⟨rfl, g2⟩))
            have gw := gA.trans (g1.alloc (.cells #[.int .i32 A'.1, .int .i32 A'.2] 31))
            have hB2 := hB.trans ((gw.below.trans (g2.mono gw.size)).mono hB.size)
            go_roundw
            case rel => exact ⟨k + 1, s + 1, by omega, by go_num, by go_num, hs2, by omega, by omega, hB2⟩
            case measure => simp [intOf]; omega
          · have hs2 : Hid (s = sumZ (fallI p) L (k + 1)) := by unfold Hid; rw [hst.out]; simp [h1, h2, h3]
            clear hst
            go_wp2_with (first | (go_at_call 70; refine (C.out _ gA.below).mono ?_; rintro e w1 ⟨rfl, g1⟩; have a0 := fun o => ((kA.gr g1).alloc o).c0; have a1 := fun o => ((kA.gr g1).alloc o).c1; have p0 := fun o => ((qA.gr g1).alloc o).c0; have p1 := fun o => ((qA.gr g1).alloc o).c1) | (go_at_call 109; refine (D.out _).mono ?_; rintro e w2 ⟨rfl, g2⟩))
            have gw := gA.trans (g1.alloc (.cells #[.int .i32 A'.1, .int .i32 A'.2] 31))
            have hB2 := hB.trans ((gw.below.trans (g2.mono gw.size)).mono hB.size)
            go_roundw
            case rel => exact ⟨k + 1, s, by omega, by go_num, rfl, hs2, by omega, by omega, hB2⟩
            case measure => simp [intOf]; omega
        · have hs2 : Hid (s = sumZ (fallI p) L (k + 1)) := by unfold Hid; rw [hst.out]; simp [h1, h2]
          clear hst
          go_wp2_with (first | (go_at_call 70; refine (C.out _ gA.below).mono ?_; rintro e w1 ⟨rfl, g1⟩; have a0 := fun o => ((kA.gr g1).alloc o).c0; have a1 := fun o => ((kA.gr g1).alloc o).c1; have p0 := fun o => ((qA.gr g1).alloc o).c0; have p1 := fun o => ((qA.gr g1).alloc o).c1))
          have gw := gA.trans (g1.alloc (.cells #[.int .i32 A'.1, .int .i32 A'.2] 31))
          have hB2 := hB.trans (gw.below.mono hB.size)
          go_roundw
          case rel => exact ⟨k + 1, s, by omega, by go_num, rfl, hs2, by omega, by omega, hB2⟩
          case measure => simp [intOf]; omega
      · have hs2 : Hid (s = sumZ (fallI p) L (k + 1)) := by unfold Hid; rw [hst.out]; simp [h1]
        clear hst
        go_wp2_with (first | (go_at_call 70; refine (C.out _ gA.below).mono ?_; rintro e w1 ⟨rfl, g1⟩; have a0 := fun o => ((kA.gr g1).alloc o).c0; have a1 := fun o => ((kA.gr g1).alloc o).c1; have p0 := fun o => ((qA.gr g1).alloc o).c0; have p1 := fun o => ((qA.gr g1).alloc o).c1))
        have gw := gA.trans (g1.alloc (.cells #[.int .i32 A'.1, .int .i32 A'.2] 31))
        have hB2 := hB.trans (gw.below.mono hB.size)
        go_roundw
        case rel => exact ⟨k + 1, s, by omega, by go_num, rfl, hs2, by omega, by omega, hB2⟩
        case measure => simp [intOf]; omega
    · have hkn : k = L.length := by omega
      have hR : Hid (sumZ (fallI p) L L.length = s) := by unfold Hid; rw [hs.out, hkn]
      clear hs
      subst hkn
      go_wp2
      go_ret
      exact ⟨by rw [hR.out]; rfl, hBw⟩
end Go.Proofs.Ytpdhknclhpifkaa
