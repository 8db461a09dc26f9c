/- The reference of inside: next, Edge, rises, falls, Crossings, Winding, Covers. -/
import Derived.Test.YtpdhknclhpifkaaCv
import Derived.Test.YtpdhknclhpifkaaRef7
import Derived.Lib.QuietBelow
namespace Go.Proofs.Ytpdhknclhpifkaa
open Go.RowKit Go.Shelf Go.Sort

theorem Pts.at {w : World} {ao : Option Addr} {L : List (Int × Int)} (h : Pts w ao L) {i : Nat} (hi : i < L.length) : ∃ b off, ao = some ⟨b, off, none⟩ ∧
    w.cell? ⟨b, off + i * 2, none⟩ = some (.int .i32 (pAt L i).1) ∧ w.cell? ⟨b, off + i * 2 + 1, none⟩ = some (.int .i32 (pAt L i).2) := by
  rw [pAt_lt hi]; exact h i hi

set_option maxRecDepth 100000 in
set_option maxHeartbeats 2000000 in
theorem rnext_any (ao : Option Addr) (cap : Nat) (L : List (Int × Int)) (hlen : L.length ≤ 17592186043904) (i : Nat) (hi : i < L.length) (w : World) (hP : Pts w ao L) :
    Calls Try.prog 70 #[.slice ao L.length cap, .int .i64 i] w fun e w' => e = .returned (pt (pAt L (i + 1)).1 (pAt L (i + 1)).2) ∧ Gr w w' := by
  by_cases h : i + 1 < L.length
  · obtain ⟨b, off, rfl, c0, c1⟩ := hP.at h
    have c0' := fun o => below_cell (w' := w.alloc o) c0 ((Gr.refl _).alloc _).below
    have c1' := fun o => below_cell (w' := w.alloc o) c1 ((Gr.refl _).alloc _).below
    generalize pAt L (i + 1) = A at *
    have e1 : (i : Int) + 1 = ((i + 1 : Nat) : Int) := by omega
    generalize i + 1 = j at *
    clear hP
    go_enter Try.func70, Try.ntmps70
    go_wp2
    refine bodyPost_ret (v := pt A.1 A.2) (by simp [results, Try.results70, go_sem]) rfl ⟨rfl, (Gr.refl _).alloc _⟩
  · have he : i + 1 = L.length := by omega
    have h0 : 0 < L.length := by omega
    obtain ⟨b, off, rfl, c0, c1⟩ := hP.at h0
    have ee : pAt L (i + 1) = pAt L 0 := by unfold pAt; rw [he]; simp
    rw [ee]
    simp only [Nat.zero_mul, Nat.add_zero] at c0 c1
    have c0' := fun o => below_cell (w' := w.alloc o) c0 ((Gr.refl _).alloc _).below
    have c1' := fun o => below_cell (w' := w.alloc o) c1 ((Gr.refl _).alloc _).below
    generalize pAt L 0 = A at *
    have e1 : (i : Int) + 1 = (L.length : Int) := by omega
    clear hP ee
    generalize L.length = n at *
    go_enter Try.func70, Try.ntmps70
    go_wp2
    refine bodyPost_ret (v := pt A.1 A.2) (by simp [results, Try.results70, go_sem]) rfl ⟨rfl, (Gr.refl _).alloc _⟩

theorem edge_upto (L : List (Int × Int)) (p : Int × Int) (k : Nat) : ((List.range (k + 1)).any fun i => onP p (pAt L i) (pAt L (i + 1))) = (((List.range k).any fun i => onP p (pAt L i) (pAt L (i + 1))) || onP p (pAt L k) (pAt L (k + 1))) := by
  rw [List.range_succ, List.any_append]; simp

set_option maxRecDepth 100000 in
set_option maxHeartbeats 4000000 in
theorem redge_any (ao : Option Addr) (cap : Nat) (L : List (Int × Int)) (hL : All32 L) (hlen : L.length ≤ 17592186043904) (p : Int × Int) (hp : P32 p) (w : World) (hP : Pts w ao L) :
    Calls Try.prog 31 #[.slice ao L.length cap, pt p.1 p.2] w fun e w' => e = .returned (.bool (edgeL L p)) ∧ Below w.heap.size w w' := by
  have g : Gr w (w.alloc (.cells #[.int .i32 p.1, .int .i32 p.2] 31)) := (Gr.refl _).alloc _
  have q := PtB.new w p
  have HP : Hid (Pts w ao L) := hP
  go_enter Try.func31, Try.ntmps31
  go_wp2
  go_loopw [5] (fun i wr => ∃ k : Nat, k ≤ L.length ∧ i = .int .i64 k ∧ Hid (((List.range k).any fun i => onP p (pAt L i) (pAt L (i + 1))) = false) ∧ Below (w.alloc (.cells #[.int .i32 p.1, .int .i32 p.2] 31)).heap.size (w.alloc (.cells #[.int .i32 p.1, .int .i32 p.2] 31)) wr) (fun i _ => L.length - (intOf i).toNat)
  case atStart => exact ⟨0, by omega, rfl, (by exact rfl), Below.refl _ _⟩
  case round =>
    obtain ⟨k, hk, rfl, hno, hB⟩ := hrel
    have hBw : Below w.heap.size w wr := g.below.trans (hB.mono g.size)
    by_cases hlt : k < L.length
    · obtain ⟨b, off, rfl, c0, c1⟩ := (HP.out.mono hBw).at hlt
      have d0 := fun d os => cell_regrown c0 d os
      have d1 := fun d os => cell_regrown c1 d os
      have e0 := fun d os => cell_regrown (q.mono hB q.lt).c0 d os
      have e1 := fun d os => cell_regrown (q.mono hB q.lt).c1 d os
      have C : Hid (∀ d os, Calls Try.prog 70 #[.slice (some ⟨b, off, none⟩) L.length cap, .int .i64 k] (grow (redrawn wr d) os) fun e w' => e = .returned (pt (pAt L (k + 1)).1 (pAt L (k + 1)).2) ∧ ∃ p : Regrown, w' = grow (redrawn wr p.d) p.os) :=
        fun d os => Calls.regrown_of ((rnext_any _ cap L hlen k hlt _ ((HP.out.mono hBw).mono (below_regrown wr d os))).mono fun e w' h => ⟨h.1, h.2.below⟩)
      have D : Hid (∀ d os, Calls Try.prog 69 #[pt p.1 p.2, pt (pAt L k).1 (pAt L k).2, pt (pAt L (k + 1)).1 (pAt L (k + 1)).2] (grow (redrawn wr d) os) fun e w' => e = .returned (.bool (onP p (pAt L k) (pAt L (k + 1)))) ∧ ∃ p : Regrown, w' = grow (redrawn wr p.d) p.os) :=
        fun d os => Calls.regrown_of (ron_any _ _ _ _ _ _ hp.1 hp.2 (pAt_32 hL k).1 (pAt_32 hL k).2 (pAt_32 hL (k + 1)).1 (pAt_32 hL (k + 1)).2 _)
      have hup : Hid (((List.range (k + 1)).any fun i => onP p (pAt L i) (pAt L (i + 1))) = onP p (pAt L k) (pAt L (k + 1))) := by unfold Hid; rw [edge_upto, hno.out]; simp
      have hex : Hid (onP p (pAt L k) (pAt L (k + 1)) = true → edgeL L p = true) := fun h => List.any_eq_true.2 ⟨k, List.mem_range.2 hlt, h⟩
      generalize onP p (pAt L k) (pAt L (k + 1)) = B at *
      generalize pAt L (k + 1) = A' at *
      generalize pAt L k = A at *
      clear hno c0 c1
      cases B with
      | true =>
        have hR : Hid (edgeL L p = true) := hex.out rfl
        clear hex
        go_wp2
        refine wp_region_quiet_below (by kernel_rfl) (by kernel_rfl) ?_
        repeat (go_big_quiet_step (first | exact C.out _ _ | exact D.out _ _))
        refine wpQuiet_nil ?_
        intro _ hw'
        obtain ⟨⟨dq, osq⟩, hw''⟩ := hw'
        subst hw''
        have gb := below_regrown wr dq osq
        generalize grow (redrawn wr dq) osq = w2 at *
        go_wp2
        go_ret
        exact ⟨by rw [hR.out]; rfl, hBw.trans (gb.mono hBw.size)⟩
      | false =>
        go_wp2
        refine wp_region_quiet_below (by kernel_rfl) (by kernel_rfl) ?_
        repeat (go_big_quiet_step (first | exact C.out _ _ | exact D.out _ _))
        refine wpQuiet_nil ?_
        intro _ hw'
        obtain ⟨⟨dq, osq⟩, hw''⟩ := hw'
        subst hw''
        have gb := below_regrown wr dq osq
        generalize grow (redrawn wr dq) osq = w2 at *
        go_wp2
        go_roundw
        case rel => exact ⟨k + 1, by omega, by go_num, hup, hB.trans (gb.mono hB.size)⟩
        case measure => simp [intOf]; omega
    · have hkn : k = L.length := by omega
      have hR : Hid (edgeL L p = false) := by have := hno.out; rw [hkn] at this; exact this
      clear hno
      subst hkn
      go_wp2
      go_ret
      exact ⟨by rw [hR.out]; rfl, hBw⟩
end Go.Proofs.Ytpdhknclhpifkaa
