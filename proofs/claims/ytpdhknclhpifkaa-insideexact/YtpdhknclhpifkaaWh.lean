/- With: a polygon with holes, on both sides. -/
import Derived.Test.YtpdhknclhpifkaaRt
namespace Go.Proofs.Ytpdhknclhpifkaa
open Go.RowKit Go.Shelf Go.Sort

abbrev Hole := Option Addr × Nat × List (Int × Int)
def hAt (H : List Hole) (i : Nat) : Hole := H.getD i (none, 0, [])
def Hls (w : World) (ho : Option Addr) (H : List Hole) : Prop := ∀ i, i < H.length → ∃ b off, ho = some ⟨b, off, none⟩ ∧ w.cell? ⟨b, off + i, none⟩ = some (.slice (hAt H i).1 (hAt H i).2.2.length (hAt H i).2.1) ∧ Pts w (hAt H i).1 (hAt H i).2.2
theorem Hls.mono {w w' : World} {ho : Option Addr} {H : List Hole} (h : Hls w ho H) (g : Below w.heap.size w w') : Hls w' ho H := fun i hi => by
  obtain ⟨b, off, e, h1, h2⟩ := h i hi
  exact ⟨b, off, e, below_cell h1 g, h2.mono g⟩
def OkH (H : List Hole) : Prop := ∀ i, All32 (hAt H i).2.2 ∧ (hAt H i).2.2.length ≤ 17592186043904
def holeB (p : Int × Int) (h : List (Int × Int)) : Bool := coversL h p && !edgeL h p
def noneB (p : Int × Int) (H : List Hole) (k : Nat) : Bool := (List.range k).all fun i => !holeB p (hAt H i).2.2
theorem noneB_succ (p : Int × Int) (H : List Hole) (k : Nat) : noneB p H (k + 1) = (noneB p H k && !holeB p (hAt H k).2.2) := by unfold noneB; rw [List.range_succ, List.all_append]; simp
theorem noneB_not {p : Int × Int} {H : List Hole} {k n : Nat} (hk : k < n) (h : holeB p (hAt H k).2.2 = true) : noneB p H n = false := by
  unfold noneB
  rw [List.all_eq_false]
  exact ⟨k, List.mem_range.2 hk, by rw [h]; simp⟩
def withL (L : List (Int × Int)) (H : List Hole) (p : Int × Int) : Bool := coversL L p && noneB p H H.length

set_option maxRecDepth 100000 in
set_option maxHeartbeats 8000000 in
theorem with_any (ao : Option Addr) (cap : Nat) (L : List (Int × Int)) (hL : All32 L) (hlen : L.length ≤ 17592186043904) (ho : Option Addr) (hc : Nat) (H : List Hole) (hH : OkH H) (hHl : H.length ≤ 17592186043904) (p : Int × Int) (hp : P32 p) (w : World) (hP : Pts w ao L) (hQ : Hls w ho H) :
    Calls Try.prog 38 #[.slice ao L.length cap, .slice ho H.length hc, pt p.1 p.2] w fun e w' => e = .returned (.bool (withL L H p)) ∧ Below w.heap.size w w' := by
  have g : Gr w (w.alloc (.cells #[.int .i32 p.1, .int .i32 p.2] 31)) := (Gr.refl _).alloc _
  have q := PtB.new w p
  have C : Hid (Calls Try.prog 34 #[.slice ao L.length cap, pt p.1 p.2] (w.alloc (.cells #[.int .i32 p.1, .int .i32 p.2] 31)) fun e w' => e = .returned (.bool (coversL L p)) ∧ Below (w.alloc (.cells #[.int .i32 p.1, .int .i32 p.2] 31)).heap.size (w.alloc (.cells #[.int .i32 p.1, .int .i32 p.2] 31)) w') := covers_any ao cap L hL hlen p hp _ (hP.mono g.below)
  have HQ : Hid (Hls w ho H) := hQ
  have hR : Hid (withL L H p = (coversL L p && noneB p H H.length)) := (by exact rfl)
  clear hQ hP
  cases hcv : coversL L p with
  | false =>
    rw [hcv] at C hR
    go_enter Try.func38, Try.ntmps38
    go_wp2_with (go_at_call 34; refine C.out.mono ?_; rintro e w' ⟨rfl, g'⟩)
    go_ret
    exact ⟨by rw [hR.out]; rfl, g.below.trans (g'.mono g.size)⟩
  | true =>
    rw [hcv] at C hR
    go_enter Try.func38, Try.ntmps38
    go_wp2_with (go_at_call 34; refine C.out.mono ?_; rintro e w' ⟨rfl, g'⟩)
    go_loopw [15] (fun i wr => ∃ k : Nat, k ≤ H.length ∧ i = .int .i64 k ∧ Hid (noneB p H k = true) ∧ Below (w.alloc (.cells #[.int .i32 p.1, .int .i32 p.2] 31)).heap.size (w.alloc (.cells #[.int .i32 p.1, .int .i32 p.2] 31)) wr) (fun i _ => H.length - (intOf i).toNat)
    case atStart => exact ⟨0, by omega, rfl, (by exact rfl), g'⟩
    case round =>
      clear g' C
      obtain ⟨k, hk, rfl, hno, hB⟩ := hrel
      have hBw : Below w.heap.size w wr := g.below.trans (hB.mono g.size)
      by_cases hlt : k < H.length
      · obtain ⟨b, off, rfl, c0, hPk⟩ := (HQ.out.mono hBw) k hlt
        have qw := q.mono hB q.lt
        have p0 := qw.c0
        have p1 := qw.c1
        obtain ⟨hk1, hk2⟩ := hH k
        have hbad : Hid (holeB p (hAt H k).2.2 = true → withL L H p = false) := fun h => by rw [hR.out, noneB_not hlt h]; rfl
        have hgood : Hid (holeB p (hAt H k).2.2 = false → noneB p H (k + 1) = true) := fun h => by rw [noneB_succ, hno.out, h]; rfl
        have C : Hid (∀ W, Below wr.heap.size wr W → Calls Try.prog 34 #[.slice (hAt H k).1 (hAt H k).2.2.length (hAt H k).2.1, pt p.1 p.2] W fun e w' => e = .returned (.bool (coversL (hAt H k).2.2 p)) ∧ Below W.heap.size W w') := fun W hW => covers_any _ _ _ hk1 hk2 p hp _ (hPk.mono hW)
        have D : Hid (∀ W, Below wr.heap.size wr W → Calls Try.prog 30 #[.slice (hAt H k).1 (hAt H k).2.2.length (hAt H k).2.1, pt p.1 p.2] W fun e w' => e = .returned (.bool (edgeL (hAt H k).2.2 p)) ∧ Below W.heap.size W w') := fun W hW => edge_any _ _ _ hk1 hk2 p hp _ (hPk.mono hW)
        clear hPk hk1 hk2 hno
        unfold holeB at hbad hgood
        generalize coversL (hAt H k).2.2 p = cv at *
        generalize edgeL (hAt H k).2.2 p = ed at *
        generalize (hAt H k).2.2.length = n1 at *
        generalize (hAt H k).1 = a1 at *
        generalize (hAt H k).2.1 = c1 at *
        cases cv with
        | false =>
          have hn2 : Hid (noneB p H (k + 1) = true) := hgood.out rfl
          clear hgood hbad
          go_wp2_with (first | (go_at_call 34; refine (C.out _ (Below.refl _ _)).mono ?_; rintro e w1 ⟨rfl, g1⟩))
          go_roundw
          case rel => exact ⟨k + 1, by omega, by go_num, hn2, hB.trans (g1.mono hB.size)⟩
          case measure => simp [intOf]; omega
        | true =>
          cases ed with
          | true =>
            have hn2 : Hid (noneB p H (k + 1) = true) := hgood.out rfl
            clear hgood hbad
            go_wp2_with (first | (go_at_call 34; refine (C.out _ (Below.refl _ _)).mono ?_; rintro e w1 ⟨rfl, g1⟩; have p0' := below_cell p0 g1; have p1' := below_cell p1 g1) | (go_at_call 30; refine (D.out _ g1).mono ?_; rintro e w2 ⟨rfl, g2⟩))
            go_roundw
            case rel => exact ⟨k + 1, by omega, by go_num, hn2, hB.trans ((g1.trans (g2.mono g1.size)).mono hB.size)⟩
            case measure => simp [intOf]; omega
          | false =>
            have hn2 : Hid (withL L H p = false) := hbad.out rfl
            clear hgood hbad
            go_wp2_with (first | (go_at_call 34; refine (C.out _ (Below.refl _ _)).mono ?_; rintro e w1 ⟨rfl, g1⟩; have p0' := below_cell p0 g1; have p1' := below_cell p1 g1) | (go_at_call 30; refine (D.out _ g1).mono ?_; rintro e w2 ⟨rfl, g2⟩))
            go_ret
            exact ⟨by rw [hn2.out]; rfl, hBw.trans ((g1.trans (g2.mono g1.size)).mono hBw.size)⟩
      · have hkn : k = H.length := by omega
        have hn2 : Hid (withL L H p = true) := by unfold Hid; rw [hR.out, ← hkn, hno.out]; rfl
        clear hno
        subst hkn
        go_wp2
        go_ret
        exact ⟨by rw [hn2.out]; rfl, hBw⟩

set_option maxRecDepth 100000 in
set_option maxHeartbeats 8000000 in
theorem rwith_any (ao : Option Addr) (cap : Nat) (L : List (Int × Int)) (hL : All32 L) (hlen : L.length ≤ 17592186043904) (ho : Option Addr) (hc : Nat) (H : List Hole) (hH : OkH H) (hHl : H.length ≤ 17592186043904) (p : Int × Int) (hp : P32 p) (w : World) (hP : Pts w ao L) (hQ : Hls w ho H) :
    Calls Try.prog 39 #[.slice ao L.length cap, .slice ho H.length hc, pt p.1 p.2] w fun e w' => e = .returned (.bool (withL L H p)) ∧ Below w.heap.size w w' := by
  have g : Gr w (w.alloc (.cells #[.int .i32 p.1, .int .i32 p.2] 31)) := (Gr.refl _).alloc _
  have q := PtB.new w p
  have HC : Hid (∀ W, Below w.heap.size w W → Calls Try.prog 35 #[.slice ao L.length cap, pt p.1 p.2] W fun e w' => e = .returned (.bool (coversL L p)) ∧ Below W.heap.size W w') := fun W hW => rcovers_any ao cap L hL hlen p hp _ (hP.mono hW)
  have HQ : Hid (Hls w ho H) := hQ
  have hR : Hid (withL L H p = (coversL L p && noneB p H H.length)) := (by exact rfl)
  clear hQ hP
  go_enter Try.func39, Try.ntmps39
  go_wp2
  go_loopw [7] (fun i wr => ∃ k : Nat, k ≤ H.length ∧ i = .int .i64 k ∧ Hid (noneB p H k = true) ∧ Below (w.alloc (.cells #[.int .i32 p.1, .int .i32 p.2] 31)).heap.size (w.alloc (.cells #[.int .i32 p.1, .int .i32 p.2] 31)) wr) (fun i _ => H.length - (intOf i).toNat)
  case atStart => exact ⟨0, by omega, rfl, (by exact rfl), Below.refl _ _⟩
  case round =>
    obtain ⟨k, hk, rfl, hno, hB⟩ := hrel
    have hBw : Below w.heap.size w wr := g.below.trans (hB.mono g.size)
    have qw := q.mono hB q.lt
    by_cases hlt : k < H.length
    · obtain ⟨b, off, rfl, c0, hPk⟩ := (HQ.out.mono hBw) k hlt
      have p0 := fun d os => cell_regrown qw.c0 d os
      have p1 := fun d os => cell_regrown qw.c1 d os
      have d0 := fun d os => cell_regrown c0 d os
      obtain ⟨hk1, hk2⟩ := hH k
      have hbad : Hid (holeB p (hAt H k).2.2 = true → withL L H p = false) := fun h => by rw [hR.out, noneB_not hlt h]; simp
      have hgood : Hid (holeB p (hAt H k).2.2 = false → noneB p H (k + 1) = true) := fun h => by rw [noneB_succ, hno.out, h]; rfl
      have C : Hid (∀ d os, Calls Try.prog 35 #[.slice (hAt H k).1 (hAt H k).2.2.length (hAt H k).2.1, pt p.1 p.2] (grow (redrawn wr d) os) fun e w' => e = .returned (.bool (coversL (hAt H k).2.2 p)) ∧ ∃ p : Regrown, w' = grow (redrawn wr p.d) p.os) := fun d os => Calls.regrown_of (rcovers_any _ _ _ hk1 hk2 p hp _ (hPk.mono (below_regrown wr d os)))
      have D : Hid (∀ d os, Calls Try.prog 31 #[.slice (hAt H k).1 (hAt H k).2.2.length (hAt H k).2.1, pt p.1 p.2] (grow (redrawn wr d) os) fun e w' => e = .returned (.bool (edgeL (hAt H k).2.2 p)) ∧ ∃ p : Regrown, w' = grow (redrawn wr p.d) p.os) := fun d os => Calls.regrown_of (redge_any _ _ _ hk1 hk2 p hp _ (hPk.mono (below_regrown wr d os)))
      clear hPk hk1 hk2 hno c0
      unfold holeB at hbad hgood
      generalize coversL (hAt H k).2.2 p = cv at *
      generalize edgeL (hAt H k).2.2 p = ed at *
      generalize (hAt H k).2.2.length = n1 at *
      generalize (hAt H k).1 = a1 at *
      generalize (hAt H k).2.1 = c1 at *
      cases cv with
      | false =>
        have hn2 : Hid (noneB p H (k + 1) = true) := hgood.out rfl
        clear hgood hbad
        go_wp2
        refine wp_region_quiet_below (by kernel_rfl) (by kernel_rfl) ?_
        repeat (go_big_quiet_step (first | exact C.out _ _ | exact D.out _ _))
        refine wpQuiet_nil ?_
        intro _ hw'
        obtain ⟨⟨dq, osq⟩, hw''⟩ := hw'
        subst hw''
        have gb := below_regrown wr dq osq
        generalize grow (redrawn wr dq) osq = w2 at *
        go_wp2
        go_roundw
        case rel => exact ⟨k + 1, by omega, by go_num, hn2, hB.trans (gb.mono hB.size)⟩
        case measure => simp [intOf]; omega
      | true =>
        cases ed with
        | true =>
          have hn2 : Hid (noneB p H (k + 1) = true) := hgood.out rfl
          clear hgood hbad
          go_wp2
          refine wp_region_quiet_below (by kernel_rfl) (by kernel_rfl) ?_
          repeat (go_big_quiet_step (first | exact C.out _ _ | exact D.out _ _))
          refine wpQuiet_nil ?_
          intro _ hw'
          obtain ⟨⟨dq, osq⟩, hw''⟩ := hw'
          subst hw''
          have gb := below_regrown wr dq osq
          generalize grow (redrawn wr dq) osq = w2 at *
          go_wp2
          go_roundw
          case rel => exact ⟨k + 1, by omega, by go_num, hn2, hB.trans (gb.mono hB.size)⟩
          case measure => simp [intOf]; omega
        | false =>
          have hn2 : Hid (withL L H p = false) := hbad.out rfl
          clear hgood hbad
          go_wp2
          refine wp_region_quiet_below (by kernel_rfl) (by kernel_rfl) ?_
          repeat (go_big_quiet_step (first | exact C.out _ _ | exact D.out _ _))
          refine wpQuiet_nil ?_
          intro _ hw'
          obtain ⟨⟨dq, osq⟩, hw''⟩ := hw'
          subst hw''
          have gb := below_regrown wr dq osq
          generalize grow (redrawn wr dq) osq = w2 at *
          go_wp2
          go_ret
          exact ⟨by rw [hn2.out]; rfl, hBw.trans (gb.mono hBw.size)⟩
    · have hkn : k = H.length := by omega
      have hn2 : Hid (withL L H p = coversL L p) := by unfold Hid; rw [hR.out, ← hkn, hno.out]; simp
      clear hno
      subst hkn
      have p0 := qw.c0
      have p1 := qw.c1
      go_wp2_with (first | (go_at_call 35; refine (HC.out _ hBw).mono ?_; rintro e w1 ⟨rfl, g1⟩))
      go_ret
      exact ⟨by rw [hn2.out]; rfl, hBw.trans (g1.mono hBw.size)⟩
end Go.Proofs.Ytpdhknclhpifkaa
