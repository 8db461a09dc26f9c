/- With: a polygon with holes, on both sides. What a polygon covers and meets. -/
import Derived.Test.YtgcofpfjdplopaaGreatCvJ
import Derived.Test.YtgcofpfjdplopaaGreatSm9
import Derived.Test.YtgcofpfjdplopaaGreatSdJ
namespace Go.Proofs.YtgcofpfjdplopaaGreat
section
open Go.RowKit Go.Shelf Go.Sort

def OkH (H : List Hole) : Prop := ∀ i, All32 (hAt H i).2.2 ∧ (hAt H i).2.2.length ≤ 17592186043904
def holeB (p : Int × Int) (h : List (Int × Int)) : Bool := coversL h p && !edgeL h p
def noneB (p : Int × Int) (H : List Hole) (k : Nat) : Bool := (List.range k).all fun i => !holeB p (hAt H i).2.2
theorem noneB_succ (p : Int × Int) (H : List Hole) (k : Nat) : noneB p H (k + 1) = (noneB p H k && !holeB p (hAt H k).2.2) := by unfold noneB; rw [List.range_succ, List.all_append]; simp
theorem noneB_not {p : Int × Int} {H : List Hole} {k n : Nat} (hk : k < n) (h : holeB p (hAt H k).2.2 = true) : noneB p H n = false := by
  unfold noneB
  rw [List.all_eq_false]
  exact ⟨k, List.mem_range.2 hk, by rw [h]; simp⟩
def withL (L : List (Int × Int)) (H : List Hole) (p : Int × Int) : Bool := coversL L p && noneB p H H.length

set_option maxRecDepth 100000 in
set_option maxHeartbeats 8000000 in
theorem with_any (ao : Option Addr) (cap : Nat) (L : List (Int × Int)) (hL : All32 L) (hlen : L.length ≤ 17592186043904) (ho : Option Addr) (hc : Nat) (H : List Hole) (hH : OkH H) (hHl : H.length ≤ 17592186043904) (p : Int × Int) (hp : P32 p) (w : World) (hP : Pts w ao L) (hQ : Hls w ho H) :
    Calls Tryz.prog 189 #[.slice ao L.length cap, .slice ho H.length hc, pt p.1 p.2] w fun e w' => e = .returned (.bool (withL L H p)) ∧ Below w.heap.size w w' := by
  have g : Gr w (w.alloc (.cells #[.int .i32 p.1, .int .i32 p.2] 28)) := (Gr.refl _).alloc _
  have q := PtB.new w p
  have C : Hid (Calls Tryz.prog 115 #[.slice ao L.length cap, pt p.1 p.2] (w.alloc (.cells #[.int .i32 p.1, .int .i32 p.2] 28)) fun e w' => e = .returned (.bool (coversL L p)) ∧ Below (w.alloc (.cells #[.int .i32 p.1, .int .i32 p.2] 28)).heap.size (w.alloc (.cells #[.int .i32 p.1, .int .i32 p.2] 28)) w') := covers_any ao cap L hL hlen p hp _ (hP.mono g.below)
  have HQ : Hid (Hls w ho H) := hQ
  have hR : Hid (withL L H p = (coversL L p && noneB p H H.length)) := (by exact rfl)
  clear hQ hP
  cases hcv : coversL L p with
  | false =>
    rw [hcv] at C hR
    go_enter Tryz.func189, Tryz.ntmps189
    go_wp2_with (go_at_call 115; refine C.out.mono ?_; rintro e w' ⟨rfl, g'⟩)
    go_ret
    exact ⟨by rw [hR.out]; rfl, g.below.trans (g'.mono g.size)⟩
  | true =>
    rw [hcv] at C hR
    go_enter Tryz.func189, Tryz.ntmps189
    go_wp2_with (go_at_call 115; refine C.out.mono ?_; rintro e w' ⟨rfl, g'⟩)
    go_loopw [15] (fun i wr => ∃ k : Nat, k ≤ H.length ∧ i = .int .i64 k ∧ Hid (noneB p H k = true) ∧ Below (w.alloc (.cells #[.int .i32 p.1, .int .i32 p.2] 28)).heap.size (w.alloc (.cells #[.int .i32 p.1, .int .i32 p.2] 28)) wr) (fun i _ => H.length - (intOf i).toNat)
    case atStart => exact ⟨0, by omega, rfl, (by exact rfl), g'⟩
    case round =>
      clear g' C
      obtain ⟨k, hk, rfl, hno, hB⟩ := hrel
      have hBw : Below w.heap.size w wr := g.below.trans (hB.mono g.size)
      by_cases hlt : k < H.length
      · obtain ⟨b, off, rfl, c0, hPk⟩ := (HQ.out.mono hBw) k hlt
        have qw := q.mono hB q.lt
        have p0 := qw.c0
        have p1 := qw.c1
        unfold hv at c0
        obtain ⟨hk1, hk2⟩ := hH k
        have hbad : Hid (holeB p (hAt H k).2.2 = true → withL L H p = false) := fun h => by rw [hR.out, noneB_not hlt h]; rfl
        have hgood : Hid (holeB p (hAt H k).2.2 = false → noneB p H (k + 1) = true) := fun h => by rw [noneB_succ, hno.out, h]; rfl
        have C : Hid (∀ W, Below wr.heap.size wr W → Calls Tryz.prog 115 #[.slice (hAt H k).1 (hAt H k).2.2.length (hAt H k).2.1, pt p.1 p.2] W fun e w' => e = .returned (.bool (coversL (hAt H k).2.2 p)) ∧ Below W.heap.size W w') := fun W hW => covers_any _ _ _ hk1 hk2 p hp _ (hPk.mono hW)
        have D : Hid (∀ W, Below wr.heap.size wr W → Calls Tryz.prog 124 #[.slice (hAt H k).1 (hAt H k).2.2.length (hAt H k).2.1, pt p.1 p.2] W fun e w' => e = .returned (.bool (edgeL (hAt H k).2.2 p)) ∧ Below W.heap.size W w') := fun W hW => edge_any _ _ _ hk1 hk2 p hp _ (hPk.mono hW)
        clear hPk hk1 hk2 hno
        unfold holeB at hbad hgood
        generalize coversL (hAt H k).2.2 p = cv at *
        generalize edgeL (hAt H k).2.2 p = ed at *
        generalize (hAt H k).2.2.length = n1 at *
        generalize (hAt H k).1 = a1 at *
        generalize (hAt H k).2.1 = c1 at *
        cases cv with
        | false =>
          have hn2 : Hid (noneB p H (k + 1) = true) := hgood.out rfl
          clear hgood hbad
          go_wp2_with (first | (go_at_call 115; refine (C.out _ (Below.refl _ _)).mono ?_; rintro e w1 ⟨rfl, g1⟩))
          go_roundw
          case rel => exact ⟨k + 1, by omega, by go_num, hn2, hB.trans (g1.mono hB.size)⟩
          case measure => simp [intOf]; omega
        | true =>
          cases ed with
          | true =>
            have hn2 : Hid (noneB p H (k + 1) = true) := hgood.out rfl
            clear hgood hbad
            go_wp2_with (first | (go_at_call 115; refine (C.out _ (Below.refl _ _)).mono ?_; rintro e w1 ⟨rfl, g1⟩; have p0' := below_cell p0 g1; have p1' := below_cell p1 g1) | (go_at_call 124; refine (D.out _ g1).mono ?_; rintro e w2 ⟨rfl, g2⟩))
            go_roundw
            case rel => exact ⟨k + 1, by omega, by go_num, hn2, hB.trans ((g1.trans (g2.mono g1.size)).mono hB.size)⟩
            case measure => simp [intOf]; omega
          | false =>
            have hn2 : Hid (withL L H p = false) := hbad.out rfl
            clear hgood hbad
            go_wp2_with (first | (go_at_call 115; refine (C.out _ (Below.refl _ _)).mono ?_; rintro e w1 ⟨rfl, g1⟩; have p0' := below_cell p0 g1; have p1' := below_cell p1 g1) | (go_at_call 124; refine (D.out _ g1).mono ?_; rintro e w2 ⟨rfl, g2⟩))
            go_ret
            exact ⟨by rw [hn2.out]; rfl, hBw.trans ((g1.trans (g2.mono g1.size)).mono hBw.size)⟩
      · have hkn : k = H.length := by omega
        have hn2 : Hid (withL L H p = true) := by unfold Hid; rw [hR.out, ← hkn, hno.out]; rfl
        clear hno
        subst hkn
        go_wp2
        go_ret
        exact ⟨by rw [hn2.out]; rfl, hBw⟩
end
section
set_option linter.unusedSimpArgs false
open Go.RowKit Go.Shelf Go.Sort

set_option maxRecDepth 20000 in
set_option maxHeartbeats 8000000 in
theorem poly_covers (D : Nat) (ao : Option Addr) (cap : Nat) (L : List (Int × Int)) (hL : All32 L) (hlen : L.length ≤ 17592186043904) (ho : Option Addr) (hc : Nat) (H : List Hole) (hH : OkH H) (hHl : H.length ≤ 17592186043904) (p : Int × Int) (hp : P32 p) (w : World) (hD : Bl w D 162 #[.slice ao L.length cap, .slice ho H.length hc]) (hP : Pts w ao L) (hQ : Hls w ho H) :
    Calls Tryz.prog 186 #[.pointer (some ⟨D, 0, none⟩), pt p.1 p.2] w fun e w' => e = .returned (.bool (withL L H p)) ∧ Below w.heap.size w w' := by
  obtain ⟨W, hW⟩ : ∃ W, W = (w.alloc (.cells #[.int .i32 p.1, .int .i32 p.2] 28)) := ⟨_, rfl⟩
  have g : Gr w W := by rw [hW]; exact (Gr.refl _).alloc _
  have kP : Bl W w.heap.size 28 #[.int .i32 p.1, .int .i32 p.2] := by rw [hW]; exact Bl.new w 28 _
  have kD := hD.below g.below
  have NE : Hid (∀ W', Below W.heap.size W W' → Calls Tryz.prog 189 #[.slice ao L.length cap, .slice ho H.length hc, pt p.1 p.2] W' fun e w' => e = .returned (.bool (withL L H p)) ∧ Below W'.heap.size W' w') := fun W' h' => with_any ao cap L hL hlen ho hc H hH hHl p hp W' ((hP.mono g.below).mono h') ((hQ.mono g.below).mono h')
  obtain ⟨p0, p1⟩ := two_below9 kP
  obtain ⟨d0, d1⟩ := two_below9 kD
  have gb : Hid (Below w.heap.size w W) := g.below
  have gs : Hid (w.heap.size ≤ W.heap.size) := g.size
  clear kP kD hD hP hQ hL hH hlen hHl hp g
  generalize withL L H p = B at *
  go_enter Tryz.func186, Tryz.ntmps186
  go_upto_region 1 with fail
  rw [← hW]
  clear hW
  go_region_held3 (Below W.heap.size W)
    (first
      | exact (Below.refl _ _).drew
      | assumption
      | exact Below.trans (by assumption) (Below.mono (by assumption) (Below.size (by assumption))))
    (first
      | (go_at_call 189; refine (NE.out _ (by assumption)).mono ?_; rintro e w3 ⟨rfl, g3⟩))
  rename_i hH
  go_wp2
  go_ret
  exact ⟨rfl, gb.out.trans (hH.mono gs.out)⟩

def edgM (L : List (Int × Int)) (H : List Hole) (p q : Int × Int) : Bool := sdB L p q || (List.range H.length).any (fun k => sdB (hAt H k).2.2 p q)
theorem edg_yes {L : List (Int × Int)} {H : List Hole} {p q : Int × Int} {k : Nat} (hk : k < H.length) (h : sdB (hAt H k).2.2 p q = true) : edgM L H p q = true := by
  unfold edgM; rw [Bool.or_eq_true]; exact .inr (List.any_eq_true.2 ⟨k, List.mem_range.2 hk, h⟩)
theorem edg_no {L : List (Int × Int)} {H : List Hole} {p q : Int × Int} (h0 : sdB L p q = false) (h : ∀ k, k < H.length → sdB (hAt H k).2.2 p q = false) : edgM L H p q = false := by
  unfold edgM; rw [Bool.or_eq_false_iff]; exact ⟨h0, by rw [List.any_eq_false]; intro k hk; rw [h k (List.mem_range.1 hk)]; simp⟩
def OkN (H : List Hole) : Prop := ∀ k, (hAt H k).1 = none → (hAt H k).2.2.length = 0 ∧ (hAt H k).2.1 = 0

set_option maxRecDepth 20000 in
set_option maxHeartbeats 8000000 in
theorem poly_edge (D : Nat) (ao : Option Addr) (cap : Nat) (L : List (Int × Int)) (hlen : L.length ≤ 17592186043904) (hno : ao = none → L.length = 0 ∧ cap = 0) (ho : Option Addr) (hc : Nat) (H : List Hole) (hH : OkH H) (hN : OkN H) (hHl : H.length ≤ 17592186043904) (p q : Int × Int) (w : World) (hD : Bl w D 162 #[.slice ao L.length cap, .slice ho H.length hc]) (hP : Pts w ao L) (hQ : Hls w ho H) :
    Calls Tryz.prog 191 #[.pointer (some ⟨D, 0, none⟩), pt p.1 p.2, pt q.1 q.2] w fun e w' => e = .returned (.bool (edgM L H p q)) ∧ Below w.heap.size w w' := by
  obtain ⟨W, hW⟩ : ∃ W, W = (w.alloc (.cells #[.int .i32 p.1, .int .i32 p.2] 28)).alloc (.cells #[.int .i32 q.1, .int .i32 q.2] 28) := ⟨_, rfl⟩
  have g : Gr w W := by rw [hW]; exact ((Gr.refl _).alloc _).alloc _
  have kP : Bl W w.heap.size 28 #[.int .i32 p.1, .int .i32 p.2] := by rw [hW]; exact (Bl.new w 28 _).below ((Gr.refl _).alloc _).below
  have kQ : Bl W (w.heap.size + 1) 28 #[.int .i32 q.1, .int .i32 q.2] := by rw [hW]; have := Bl.new (w.alloc (.cells #[.int .i32 p.1, .int .i32 p.2] 28)) 28 #[.int .i32 q.1, .int .i32 q.2]; rwa [World.size_alloc] at this
  have kD := hD.below g.below
  have HQ := hid' (hQ.mono g.below)
  have NE : Hid (∀ W', Below W.heap.size W W' → Calls Tryz.prog 192 #[.slice ao L.length cap, pt p.1 p.2, pt q.1 q.2] W' fun e w' => e = .returned (.bool (sdB L p q)) ∧ Below W'.heap.size W' w') := fun W' h' => side_any ao cap L hlen hno p q W' ((hP.mono g.below).mono h')
  obtain ⟨p0, p1⟩ := two_below9 kP
  obtain ⟨q0, q1⟩ := two_below9 kQ
  obtain ⟨d0, d1⟩ := two_below9 kD
  have gb : Hid (Below w.heap.size w W) := g.below
  have gs : Hid (w.heap.size ≤ W.heap.size) := g.size
  have ER : Hid (sdB L p q = true → edgM L H p q = true) := fun h => by unfold edgM; rw [h]; rfl
  have HT : Hid (sdB L p q = false → (∀ k, k < H.length → sdB (hAt H k).2.2 p q = false) → edgM L H p q = false) := edg_no
  have HF : Hid (∀ k, k < H.length → sdB (hAt H k).2.2 p q = true → edgM L H p q = true) := fun k => edg_yes
  generalize edgM L H p q = R at *
  clear kP kQ kD hD hP hQ hlen hno g
  cases hs : sdB L p q with
  | true =>
    rw [hs] at NE
    have hR := hid' (ER.out hs)
    clear HT HF ER
    go_enter Tryz.func191, Tryz.ntmps191
    go_upto_region 1 with fail
    rw [← hW]
    clear hW
    go_region_held3 (Below W.heap.size W)
      (first
        | exact (Below.refl _ _).drew
        | assumption
        | exact Below.trans (by assumption) (Below.mono (by assumption) (Below.size (by assumption))))
      (first
        | (go_at_call 192; refine (NE.out _ (by assumption)).mono ?_; rintro e w3 ⟨rfl, g3⟩))
    rename_i hH
    go_wp2
    go_ret
    exact ⟨by rw [hR.out]; rfl, gb.out.trans (hH.mono gs.out)⟩
  | false =>
    rw [hs] at NE
    replace HT := hid' (HT.out hs)
    clear ER
    go_enter Tryz.func191, Tryz.ntmps191
    go_upto_region 1 with fail
    rw [← hW]
    clear hW
    go_region_held3 (Below W.heap.size W)
      (first
        | exact (Below.refl _ _).drew
        | assumption
        | exact Below.trans (by assumption) (Below.mono (by assumption) (Below.size (by assumption))))
      (first
        | (go_at_call 192; refine (NE.out _ (by assumption)).mono ?_; rintro e w3 ⟨rfl, g3⟩))
    rename_i h3
    have d1' := d1 _ h3
    go_wp2
    go_loopw [8, 21] (fun _ i wr => ∃ k : Nat, k ≤ H.length ∧ i = .int .i64 k ∧ Hid (∀ j, j < k → sdB (hAt H j).2.2 p q = false) ∧ Below W.heap.size W wr) (fun _ i _ => H.length - (intOf i).toNat)
    case atStart => exact ⟨0, by omega, rfl, (by intro j hj; omega), h3⟩
    case round =>
      obtain ⟨k, hk, rfl, hE, hB⟩ := hrel
      by_cases hlt : k < H.length
      · obtain ⟨b, off, rfl, c0, hPk⟩ := (HQ.out.mono hB) k hlt
        have x0 := p0 _ hB
        have x1 := p1 _ hB
        have x2 := q0 _ hB
        have x3 := q1 _ hB
        unfold hv at c0
        have C : Hid (Calls Tryz.prog 192 #[.slice (hAt H k).1 (hAt H k).2.2.length (hAt H k).2.1, pt p.1 p.2, pt q.1 q.2] wr fun e w' => e = .returned (.bool (sdB (hAt H k).2.2 p q)) ∧ Below wr.heap.size wr w') := side_any _ _ _ (hH k).2 (hN k) p q wr hPk
        have HF' := hid' (HF.out k hlt)
        have HE' : Hid (sdB (hAt H k).2.2 p q = false → ∀ j, j < k + 1 → sdB (hAt H j).2.2 p q = false) := fun e j hj => by
          by_cases c : j = k
          · subst c; exact e
          · exact hE.out j (by omega)
        clear HF hE hPk p0 p1 q0 q1 d0 d1
        generalize sdB (hAt H k).2.2 p q = S at *
        generalize (hAt H k).2.2.length = n1 at *
        generalize (hAt H k).1 = a1 at *
        generalize (hAt H k).2.1 = c1 at *
        cases S with
        | true =>
          have hR := hid' (HF'.out rfl)
          clear HF' HE' HT
          go_wp2_with (go_at_call 192; refine C.out.mono ?_; rintro e w4 ⟨rfl, g4⟩)
          go_ret
          exact ⟨by rw [hR.out]; rfl, gb.out.trans ((hB.trans (g4.mono hB.size)).mono gs.out)⟩
        | false =>
          have hR := hid' (HE'.out rfl)
          clear HF' HE'
          go_wp2_with (go_at_call 192; refine C.out.mono ?_; rintro e w4 ⟨rfl, g4⟩)
          go_roundw
          case rel => exact ⟨k + 1, by omega, by go_num, hR, hB.trans (g4.mono hB.size)⟩
          case measure => simp [intOf]; omega
      · obtain rfl : k = H.length := by omega
        have eT := hid' (HT.out hE.out)
        clear HT HF
        go_wp2
        go_ret
        exact ⟨by rw [eT.out]; rfl, gb.out.trans (hB.mono gs.out)⟩
end
end Go.Proofs.YtgcofpfjdplopaaGreat
