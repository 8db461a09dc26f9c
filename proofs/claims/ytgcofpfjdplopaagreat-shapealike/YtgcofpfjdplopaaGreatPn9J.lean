/- What a corridor meets. What a polygon meets; what a corridor covers. -/
import Derived.Test.YtgcofpfjdplopaaGreatCo9J
import Derived.Test.YtgcofpfjdplopaaGreatPm9J
namespace Go.Proofs.YtgcofpfjdplopaaGreat
section
set_option linter.unusedSimpArgs false
open Go.RowKit Go.Shelf Go.Sort

/-- Whether the k-th stretch comes as near as r to the segment. -/
def legB (L : List (Int × Int)) (p q : Int × Int) (r : Int) (k : Nat) : Bool := nearS (L.getD k (0, 0)) (L.getD (k + 1) (0, 0)) p q r
def corrM (L : List (Int × Int)) (p q : Int × Int) (r : Int) : Bool := (List.range (L.length - 1)).any (legB L p q r)
theorem corr_yes {L : List (Int × Int)} {p q : Int × Int} {r : Int} {k : Nat} (hk : k < L.length - 1) (h : legB L p q r k = true) : corrM L p q r = true := by
  unfold corrM; rw [List.any_eq_true]; exact ⟨k, List.mem_range.2 hk, h⟩
theorem corr_no {L : List (Int × Int)} {p q : Int × Int} {r : Int} (h : ∀ k, k < L.length - 1 → legB L p q r k = false) : corrM L p q r = false := by
  unfold corrM; rw [List.any_eq_false]; intro k hk; rw [h k (List.mem_range.1 hk)]; simp
theorem two_block {w : World} {b t : Nat} {x y : Value} (h : Bl w b t #[x, y]) : ∀ w', Gr w w' → Bl w' b t #[x, y] := fun _ g => h.below g.below

set_option maxRecDepth 20000 in
set_option maxHeartbeats 8000000 in
theorem corr_meets (D b off cap : Nat) (L : List (Int × Int)) (s : Int) (hs : -2147483648 ≤ s ∧ s < 2147483648) (h1 : 2 ≤ L.length) (hl : L.length ≤ 17592186043904) (hc : L.length ≤ cap) (hcm : cap ≤ 9223372036854775807) (p q : Int × Int) (w : World) (hD : Bl w D 134 #[.slice (some ⟨b, off, none⟩) L.length cap, .int .i32 s]) (hP : Pts w (some ⟨b, off, none⟩) L) :
    Calls Tryz.prog 205 #[.pointer (some ⟨D, 0, none⟩), pt p.1 p.2, pt q.1 q.2] w fun e w' => e = .returned (.bool (corrM L p q s)) ∧ Gr w w' := by
  have hw : IntKind.i64.wrap s = s := by simp only [IntKind.wrap, IntKind.signed, IntKind.bits]; simp; omega
  obtain ⟨W, hW⟩ : ∃ W, W = (w.alloc (.cells #[.int .i32 p.1, .int .i32 p.2] 28)).alloc (.cells #[.int .i32 q.1, .int .i32 q.2] 28) := ⟨_, rfl⟩
  have g : Gr w W := by rw [hW]; exact ((Gr.refl _).alloc _).alloc _
  have kP : Bl W w.heap.size 28 #[.int .i32 p.1, .int .i32 p.2] := by rw [hW]; exact (Bl.new w 28 _).below ((Gr.refl _).alloc _).below
  have kQ : Bl W (w.heap.size + 1) 28 #[.int .i32 q.1, .int .i32 q.2] := by rw [hW]; have := Bl.new (w.alloc (.cells #[.int .i32 p.1, .int .i32 p.2] 28)) 28 #[.int .i32 q.1, .int .i32 q.2]; rwa [World.size_alloc] at this
  have kD := hid' (hD.below g.below)
  have HP := hid' (hP.mono g.below)
  have SG : Hid (∀ k w, Calls Tryz.prog 206 #[pt (L.getD k (0, 0)).1 (L.getD k (0, 0)).2, pt (L.getD (k + 1) (0, 0)).1 (L.getD (k + 1) (0, 0)).2, pt p.1 p.2, pt q.1 q.2, .int .i64 s] w fun e w' => e = .returned (.bool (legB L p q s k)) ∧ Gr w w') := fun k w => NearSeg_any _ _ _ _ _ w
  have HT : Hid ((∀ k, k < L.length - 1 → legB L p q s k = false) → corrM L p q s = false) := corr_no
  have HF : Hid (∀ k, k < L.length - 1 → legB L p q s k = true → corrM L p q s = true) := fun k => corr_yes
  generalize corrM L p q s = R at *
  have hc1 : 1 < cap := by omega
  have hc3 : ¬ cap = 1 := by omega
  have hc4 : ¬ (cap : Int) = 1 := by omega
  obtain ⟨n, hn⟩ : ∃ n, L.length = n + 1 := ⟨L.length - 1, by omega⟩
  rw [hn] at kD hc hl HT HF
  rw [Nat.add_sub_cancel] at HT HF
  have d0 : W.cell? ⟨D, 0, none⟩ = some (.slice (some ⟨b, off, none⟩) (n + 1) cap) := kD.out.cell rfl
  replace hn := hid' hn
  replace g := hid' g
  replace kP := hid' kP
  replace kQ := hid' kQ
  clear hD hP h1 hs
  go_enter Tryz.func205, Tryz.ntmps205
  go_upto_region 1 with fail
  rw [← hW]
  clear hW
  go_wp2
  go_loopw [7, 8, 15] (fun _ _ i wr => ∃ k : Nat, k ≤ n ∧ i = .int .i64 k ∧ Hid (∀ j, j < k → legB L p q s j = false) ∧ Gr W wr) (fun _ _ i _ => n - (intOf i).toNat)
  case atStart => exact ⟨0, by omega, rfl, (by intro j hj; omega), Gr.refl _⟩
  case round =>
    obtain ⟨k, hk, rfl, hE, hG⟩ := hrel
    by_cases hlt : k < n
    · obtain ⟨b1, off1, e1, p0, p1⟩ := HP.out (k + 1) (by rw [hn.out]; omega)
      obtain ⟨b2, off2, e2, q0, q1⟩ := HP.out k (by rw [hn.out]; omega)
      simp only [Option.some.injEq, Addr.mk.injEq] at e1 e2
      obtain ⟨rfl, rfl, _⟩ := e1
      obtain ⟨rfl, rfl, _⟩ := e2
      rw [show off + (k + 1) * 2 = off + 2 + k * 2 from by omega] at p0 p1
      replace p0 := below_cell p0 hG.below
      replace p1 := below_cell p1 hG.below
      have hlt2 : k < n + 1 := by omega
      have hi0 : (0 : Int) ≤ (k : Int) := by omega
      have hi1 : (k : Int) < (n : Int) + 1 := by omega
      have hi2 : ¬ (k : Int) < 0 := by omega
      have HF' := hid' (HF.out k hlt)
      have HE' : Hid (legB L p q s k = false → ∀ j, j < k + 1 → legB L p q s j = false) := fun e j hj => by
        by_cases c : j = k
        · subst c; exact e
        · exact hE.out j (by omega)
      have S1 := hid' (SG.out k)
      clear HF hE SG
      obtain ⟨W2, hW2⟩ : ∃ W2, W2 = wr.alloc (.cells #[.int .i32 (L.getD (k + 1) (0, 0)).1, .int .i32 (L.getD (k + 1) (0, 0)).2] 28) := ⟨_, rfl⟩
      have g2 : Gr wr W2 := by rw [hW2]; exact (Gr.refl _).alloc _
      have hG2 := hG.trans g2
      have kN : Bl W2 wr.heap.size 28 #[.int .i32 (L.getD (k + 1) (0, 0)).1, .int .i32 (L.getD (k + 1) (0, 0)).2] := by rw [hW2]; exact Bl.new wr 28 _
      obtain ⟨n0, n1⟩ := two_gr9 kN
      obtain ⟨x0, x1⟩ := two_gr9 (kP.out.below hG2.below)
      obtain ⟨y0, y1⟩ := two_gr9 (kQ.out.below hG2.below)
      obtain ⟨z0, z1⟩ := two_gr9 (kD.out.below hG2.below)
      replace q0 : ∀ w', Gr W2 w' → w'.cell? ⟨b, off + k * 2, none⟩ = _ := fun w' h => below_cell q0 (hG2.trans h).below
      replace q1 : ∀ w', Gr W2 w' → w'.cell? ⟨b, off + k * 2 + 1, none⟩ = _ := fun w' h => below_cell q1 (hG2.trans h).below
      replace hG2 := hid' hG2
      clear kN g2 hG
      generalize (L.getD (k + 1) (0, 0)).1 = X at *
      generalize (L.getD (k + 1) (0, 0)).2 = Y at *
      generalize (L.getD k (0, 0)).1 = X' at *
      generalize (L.getD k (0, 0)).2 = Y' at *
      cases hv : legB L p q s k with
      | true =>
        have hR := hid' (HF'.out hv)
        rw [hv] at S1
        clear HF' HE' HT
        go_upto_region 4 with fail
        rw [← hW2]
        clear hW2
        go_region_held3 (Gr W2)
          (first
            | exact (Gr.refl _).drew
            | assumption
            | exact Gr.trans (by assumption) (by assumption))
          (first
            | (go_at_call 206; refine (S1.out _).mono ?_; rintro e w3 ⟨rfl, g3⟩))
        rename_i hH
        clear p0 p1 q0 q1 n0 n1 x0 x1 y0 y1 z0 z1 d0
        go_wp2
        go_ret
        exact ⟨by rw [hR.out]; rfl, g.out.trans (hG2.out.trans hH)⟩
      | false =>
        have hR := hid' (HE'.out hv)
        rw [hv] at S1
        clear HF' HE'
        go_upto_region 4 with fail
        rw [← hW2]
        clear hW2
        go_region_held3 (Gr W2)
          (first
            | exact (Gr.refl _).drew
            | assumption
            | exact Gr.trans (by assumption) (by assumption))
          (first
            | (go_at_call 206; refine (S1.out _).mono ?_; rintro e w3 ⟨rfl, g3⟩))
        rename_i hH
        clear p0 p1 q0 q1 n0 n1 x0 x1 y0 y1 z0 z1 d0
        go_wp2
        go_roundw
        case rel => exact ⟨k + 1, by omega, by go_num, hR, hG2.out.trans hH⟩
        case measure => simp [intOf]; omega
    · obtain rfl : k = n := by omega
      have eT := hid' (HT.out hE.out)
      clear HT HF
      go_wp2
      go_ret
      exact ⟨by rw [eT.out]; rfl, g.out.trans hG⟩
end
section
set_option linter.unusedSimpArgs false
open Go.RowKit Go.Shelf Go.Sort

set_option maxRecDepth 20000 in
set_option maxHeartbeats 8000000 in
theorem corr_covers (D b off cap : Nat) (L : List (Int × Int)) (s : Int) (hs : -2147483648 ≤ s ∧ s < 2147483648) (h1 : 2 ≤ L.length) (hl : L.length ≤ 17592186043904) (hc : L.length ≤ cap) (hcm : cap ≤ 9223372036854775807) (p : Int × Int) (w : World) (hD : Bl w D 134 #[.slice (some ⟨b, off, none⟩) L.length cap, .int .i32 s]) (hP : Pts w (some ⟨b, off, none⟩) L) :
    Calls Tryz.prog 204 #[.pointer (some ⟨D, 0, none⟩), pt p.1 p.2] w fun e w' => e = .returned (.bool (corrM L p p s)) ∧ Gr w w' := by
  have g : Gr w (w.alloc (.cells #[.int .i32 p.1, .int .i32 p.2] 28)) := (Gr.refl _).alloc _
  have M : Hid (Calls Tryz.prog 205 #[.pointer (some ⟨D, 0, none⟩), pt p.1 p.2, pt p.1 p.2] (w.alloc (.cells #[.int .i32 p.1, .int .i32 p.2] 28)) fun e w' => e = .returned (.bool (corrM L p p s)) ∧ Gr (w.alloc (.cells #[.int .i32 p.1, .int .i32 p.2] 28)) w') := corr_meets D b off cap L s hs h1 hl hc hcm p p _ (hD.below g.below) (hP.mono g.below)
  clear hD hs hP h1 hl hc hcm
  generalize corrM L p p s = B at *
  go_enter Tryz.func204, Tryz.ntmps204
  go_wp2_with (go_at_call 205; refine M.out.mono ?_; rintro e w3 ⟨rfl, g3⟩)
  go_ret
  exact ⟨rfl, g.trans g3⟩

def polyM (L : List (Int × Int)) (H : List Hole) (p q : Int × Int) : Bool := (latP p && latP q) && (withL L H p || edgM L H p q)
set_option maxRecDepth 20000 in
set_option maxHeartbeats 8000000 in
theorem poly_meets (D : Nat) (ao : Option Addr) (cap : Nat) (L : List (Int × Int)) (hL : All32 L) (hlen : L.length ≤ 17592186043904) (hno : ao = none → L.length = 0 ∧ cap = 0) (ho : Option Addr) (hc : Nat) (H : List Hole) (hH : OkH H) (hN : OkN H) (hHl : H.length ≤ 17592186043904) (p q : Int × Int) (hp : P32 p) (w : World) (hD : Bl w D 162 #[.slice ao L.length cap, .slice ho H.length hc]) (hP : Pts w ao L) (hQ : Hls w ho H) :
    Calls Tryz.prog 187 #[.pointer (some ⟨D, 0, none⟩), pt p.1 p.2, pt q.1 q.2] w fun e w' => e = .returned (.bool (polyM L H p q)) ∧ Below w.heap.size w w' := by
  have E : Hid (polyM L H p q = ((latP p && latP q) && (withL L H p || edgM L H p q))) := (by exact rfl)
  obtain ⟨W, hW⟩ : ∃ W, W = (w.alloc (.cells #[.int .i32 p.1, .int .i32 p.2] 28)).alloc (.cells #[.int .i32 q.1, .int .i32 q.2] 28) := ⟨_, rfl⟩
  have g : Gr w W := by rw [hW]; exact ((Gr.refl _).alloc _).alloc _
  have kP : Bl W w.heap.size 28 #[.int .i32 p.1, .int .i32 p.2] := by rw [hW]; exact (Bl.new w 28 _).below ((Gr.refl _).alloc _).below
  have kQ : Bl W (w.heap.size + 1) 28 #[.int .i32 q.1, .int .i32 q.2] := by rw [hW]; have := Bl.new (w.alloc (.cells #[.int .i32 p.1, .int .i32 p.2] 28)) 28 #[.int .i32 q.1, .int .i32 q.2]; rwa [World.size_alloc] at this
  have kD := hD.below g.below
  have hP' := hP.mono g.below
  have hQ' := hQ.mono g.below
  have OL : Hid (∀ W', Below W.heap.size W W' → Calls Tryz.prog 190 #[pt p.1 p.2, pt q.1 q.2] W' fun e w' => e = .returned (.bool (latP p && latP q)) ∧ Below W'.heap.size W' w') := fun W' _ => (onLat_any p q W').mono (fun e w' h => ⟨h.1, h.2.below⟩)
  have OC : Hid (∀ W', Below W.heap.size W W' → Calls Tryz.prog 186 #[.pointer (some ⟨D, 0, none⟩), pt p.1 p.2] W' fun e w' => e = .returned (.bool (withL L H p)) ∧ Below W'.heap.size W' w') := fun W' h' => poly_covers D ao cap L hL hlen ho hc H hH hHl p hp W' (kD.below h') (hP'.mono h') (hQ'.mono h')
  have OS : Hid (∀ W', Below W.heap.size W W' → Calls Tryz.prog 191 #[.pointer (some ⟨D, 0, none⟩), pt p.1 p.2, pt q.1 q.2] W' fun e w' => e = .returned (.bool (edgM L H p q)) ∧ Below W'.heap.size W' w') := fun W' h' => poly_edge D ao cap L hlen hno ho hc H hH hN hHl p q W' (kD.below h') (hP'.mono h') (hQ'.mono h')
  obtain ⟨p0, p1⟩ := two_below9 kP
  obtain ⟨q0, q1⟩ := two_below9 kQ
  have x0 := p0 W (Below.refl _ _)
  have x1 := p1 W (Below.refl _ _)
  have x2 := q0 W (Below.refl _ _)
  have x3 := q1 W (Below.refl _ _)
  have gb : Hid (Below w.heap.size w W) := g.below
  have gs : Hid (w.heap.size ≤ W.heap.size) := g.size
  clear kP kQ kD hD hP hQ hP' hQ' hL hH hN hlen hno hHl hp g
  generalize edgM L H p q = S at *
  generalize withL L H p = C at *
  generalize polyM L H p q = R at *
  generalize (latP p && latP q) = LL at *
  cases LL with
  | false =>
    have hR : R = false := E.out
    subst hR
    go_enter Tryz.func187, Tryz.ntmps187
    go_upto_region 1 with fail
    rw [← hW]
    clear hW
    go_wp2_with (go_at_call 190; refine (OL.out _ (Below.refl _ _)).mono ?_; rintro e w3 ⟨rfl, g3⟩)
    go_ret
    exact ⟨rfl, gb.out.trans (g3.mono gs.out)⟩
  | true =>
    cases C with
    | true =>
      have hR : R = true := E.out
      subst hR
      go_enter Tryz.func187, Tryz.ntmps187
      go_upto_region 1 with fail
      rw [← hW]
      clear hW
      go_wp2_with (first
        | (go_at_call 190; refine (OL.out _ (Below.refl _ _)).mono ?_; rintro e w3 ⟨rfl, g3⟩; have y0 := p0 _ g3; have y1 := p1 _ g3)
        | (go_at_call 186; refine (OC.out _ g3).mono ?_; rintro e w4 ⟨rfl, g4⟩))
      go_ret
      exact ⟨rfl, gb.out.trans ((g3.trans (g4.mono g3.size)).mono gs.out)⟩
    | false =>
      have hR : R = S := E.out
      subst hR
      go_enter Tryz.func187, Tryz.ntmps187
      go_upto_region 1 with fail
      rw [← hW]
      clear hW
      go_wp2_with (first
        | (go_at_call 190; refine (OL.out _ (Below.refl _ _)).mono ?_; rintro e w3 ⟨rfl, g3⟩; have y0 := p0 _ g3; have y1 := p1 _ g3)
        | (go_at_call 186; refine (OC.out _ g3).mono ?_; rintro e w4 ⟨rfl, g4⟩; have G4 := g3.trans (g4.mono g3.size); have z0 := p0 _ G4; have z1 := p1 _ G4; have z2 := q0 _ G4; have z3 := q1 _ G4)
        | (go_at_call 191; refine (OS.out _ G4).mono ?_; rintro e w5 ⟨rfl, g5⟩))
      go_ret
      exact ⟨rfl, gb.out.trans ((G4.trans (g5.mono G4.size)).mono gs.out)⟩
end
end Go.Proofs.YtgcofpfjdplopaaGreat
