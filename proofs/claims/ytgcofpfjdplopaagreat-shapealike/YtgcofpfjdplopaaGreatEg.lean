/- inside's Edge: some of the sides has the point. -/
import Derived.Test.YtgcofpfjdplopaaGreatSdJ
import Derived.Test.YtgcofpfjdplopaaGreatGcdJ
namespace Go.Proofs.YtgcofpfjdplopaaGreat
section
open Go.RowKit Go.Shelf
attribute [local go_sem] Oper.semAt_some

def onE (p a b : Int × Int) : Bool := onB p.1 p.2 a.1 a.2 b.1 b.2
def edgeL (L : List (Int × Int)) (p : Int × Int) : Bool := (List.range L.length).any fun i => onE p (pAt L i) (pAt L (i + 1))

set_option maxRecDepth 100000 in
set_option maxHeartbeats 2000000 in
theorem edge1_any (p a b : Int × Int) (hp : P32 p) (ha : P32 a) (hb : P32 b) (Bp : Nat) (w : World) (hB : PtB w Bp p) :
    Calls Tryz.prog 129 #[pt a.1 a.2, pt b.1 b.2, .pointer (some ⟨Bp, 0, none⟩)] w fun e w' => e = .returned (.bool (onE p a b)) ∧ Gr w w' := by
  have c0 := hB.c0
  have c1 := hB.c1
  have hlt := hB.lt
  have b0 : ∀ o, (w.alloc o).cell? ⟨Bp, 0, none⟩ = some (.int .i32 p.1) := fun o => below_cell c0 ((Gr.refl _).alloc _).below
  have b1 : ∀ o, (w.alloc o).cell? ⟨Bp, 1, none⟩ = some (.int .i32 p.2) := fun o => below_cell c1 ((Gr.refl _).alloc _).below
  have d0 : ∀ o o', ((w.alloc o).alloc o').cell? ⟨Bp, 0, none⟩ = some (.int .i32 p.1) := fun o o' => below_cell c0 (((Gr.refl _).alloc _).alloc _).below
  have d1 : ∀ o o', ((w.alloc o).alloc o').cell? ⟨Bp, 1, none⟩ = some (.int .i32 p.2) := fun o o' => below_cell c1 (((Gr.refl _).alloc _).alloc _).below
  have C : Hid (∀ w, Calls Tryz.prog 130 #[pt p.1 p.2, pt a.1 a.2, pt b.1 b.2] w fun e w' => e = .returned (.bool (onE p a b)) ∧ Gr w w') := fun w => on_any _ _ _ _ _ _ hp.1 hp.2 ha.1 ha.2 hb.1 hb.2 w
  go_enter Tryz.func129, Tryz.ntmps129
  go_wp2_with (go_at_call 130; refine (C.out _).mono ?_; rintro e w' ⟨rfl, g⟩)
  go_ret
  exact ⟨rfl, (((Gr.refl _).alloc _).alloc _).trans g⟩

set_option maxRecDepth 100000 in
set_option maxHeartbeats 4000000 in
theorem some_in (n : Nat) (hn : 9 ≤ n) (ao : Option Addr) (cap : Nat) (L : List (Int × Int)) (hL : All32 L) (hlen : L.length ≤ 17592186043904) (p : Int × Int) (hp : P32 p) (Bp : Nat) (w : World) (hB : PtB w Bp p) (hP : Pts w ao L) :
    CallsIn Fence.wide n Tryz.prog 128 #[.slice ao L.length cap, .func (.func 129) #[] #[.pointer (some ⟨Bp, 0, none⟩)]] w fun e w' => e = .returned (.bool (edgeL L p)) ∧ Below w.heap.size w w' := by
  have hlt := hB.lt
  refine callsIn_of_wp_marks Tryz.func128 rfl trivial ?_ rfl
  simp only [Tryz.ntmps128, List.size_toArray, List.length_cons, List.length_nil, Nat.reduceAdd, Nat.reduceSub, Array.replicate_succ, Array.replicate_zero, List.push_toArray, List.append_toArray, List.nil_append, List.cons_append]
  have h1 : 1 ≤ n := by omega
  gi_wp2_with (refine ⟨trivial, ?_⟩; refine (sides_in _ _ _ _ _).mono ?_; rintro e w' ⟨rfl, rfl⟩)
  have b0 : PtB (((w.alloc (.cells #[.func (.func 129) #[] #[.pointer (some ⟨Bp, 0, none⟩)]] 48)).alloc (.cells #[.bool false] 4)).alloc (.cells #[.slice ao L.length cap] 23)) Bp p := ((hB.alloc _).alloc _).alloc _
  have bF := ((Boxed.new w 48 (.func (.func 129) #[] #[.pointer (some ⟨Bp, 0, none⟩)])).alloc (.cells #[.bool false] 4)).alloc (.cells #[.slice ao L.length cap] 23)
  have bR := (Boxed.new (w.alloc (.cells #[.func (.func 129) #[] #[.pointer (some ⟨Bp, 0, none⟩)]] 48)) 4 (.bool false)).alloc (.cells #[.slice ao L.length cap] 23)
  have bS := Boxed.new ((w.alloc (.cells #[.func (.func 129) #[] #[.pointer (some ⟨Bp, 0, none⟩)]] 48)).alloc (.cells #[.bool false] 4)) 23 (.slice ao L.length cap)
  simp only [World.size_alloc] at bR bS
  have hG0 : Gr w (((w.alloc (.cells #[.func (.func 129) #[] #[.pointer (some ⟨Bp, 0, none⟩)]] 48)).alloc (.cells #[.bool false] 4)).alloc (.cells #[.slice ao L.length cap] 23)) := (((Gr.refl _).alloc _).alloc _).alloc _
  have hsz : (((w.alloc (.cells #[.func (.func 129) #[] #[.pointer (some ⟨Bp, 0, none⟩)]] 48)).alloc (.cells #[.bool false] 4)).alloc (.cells #[.slice ao L.length cap] 23)).heap.size = w.heap.size + 3 := by simp
  obtain ⟨W0, hW0⟩ : ∃ W0, ((w.alloc (.cells #[.func (.func 129) #[] #[.pointer (some ⟨Bp, 0, none⟩)]] 48)).alloc (.cells #[.bool false] 4)).alloc (.cells #[.slice ao L.length cap] 23) = W0 := ⟨_, rfl⟩
  rw [hW0] at b0 bF bR bS hG0 hsz ⊢
  clear hW0
  have hps : ∀ b, (b < w.heap.size ∨ b = w.heap.size + 1 + 1) → b < W0.heap.size := fun b hb => by omega
  have hPI : PtsIn (fun b => b < w.heap.size ∨ b = w.heap.size + 1 + 1) W0 ao L := PtsIn.at hP (fun b hb => .inl hb) hG0.below
  refine wpIn_rangeFunc_ownH rfl h1 (gf := 146) (lb := #[.pointer (some ⟨w.heap.size + 1 + 1, 0, none⟩)]) rfl trivial (enters_of Tryz.func146 (by kernel_rfl) rfl)
    (sides_stops (n - 1) (w.heap.size + 1 + 1) (fun b => b < w.heap.size ∨ b = w.heap.size + 1 + 1) (.inr rfl) ao cap L hlen W0 hps bS.cell hPI) Kq.t (Kq.b hps) (Below.refl _ _) (fun _ => rfl)
    (fun pre W => ((((∀ x ∈ pre, onE p (pAt L x) (pAt L (x + 1)) = false) ∧ Boxed W (w.heap.size + 1) 4 (.bool false)) ∧ Boxed W w.heap.size 48 (.func (.func 129) #[] #[.pointer (some ⟨Bp, 0, none⟩)])) ∧ PtB W Bp p) ∧ (Below w.heap.size w W ∧ W0.heap.size ≤ W.heap.size))
    (fun c pre W => ((c = .ret ∧ ∃ x ∈ pre, onE p (pAt L x) (pAt L (x + 1)) = true) ∧ Boxed W (w.heap.size + 1) 4 (.bool true)) ∧ Below w.heap.size w W)
    (OwnFrom.and (OwnFrom.and (OwnFrom.and (OwnFrom.and (ownFrom_pure _ _) (Own.from (boxed_own _ _ _) _)) (Own.from (boxed_own _ _ _) _)) (PtB.own _ _ _)) (OwnFrom.and (ownFrom_below (Nat.le_refl _) (by omega)) (size_own _ _)))
    (fun c => OwnFrom.and (OwnFrom.and (ownFrom_pure _ _) (Own.from (boxed_own _ _ _) _)) (ownFrom_below (Nat.le_refl _) (by omega)))
    ⟨⟨⟨⟨by simp, bR⟩, bF⟩, b0⟩, hG0.below, Nat.le_refl _⟩
    (fun x a' W => ∃ B1 B2, (W0.heap.size ≤ B1 ∧ W0.heap.size ≤ B2) ∧ (PtB W B1 (pAt L x) ∧ PtB W B2 (pAt L (x + 1))) ∧ a' = { tmps := #[.slice ao L.length cap, .func (.func 129) #[] #[.pointer (some ⟨Bp, 0, none⟩)], undef, .pointer (some ⟨w.heap.size, 0, none⟩), .pointer (some ⟨w.heap.size + 1, 0, none⟩), .pointer (some ⟨B1, 0, none⟩), .pointer (some ⟨B2, 0, none⟩), .slice ao L.length cap, .func (.func 146) #[] #[.pointer (some ⟨w.heap.size + 1 + 1, 0, none⟩)], pt (pAt L x).1 (pAt L x).2, pt (pAt L (x + 1)).1 (pAt L (x + 1)).2, undef, undef, undef, undef], defers := [] })
    (fun x a' _ X Y row hs hg hr => by obtain ⟨B1, B2, e1, e2, e3⟩ := hs; exact ⟨B1, B2, e1, ⟨blk_kept e2.1 hg (fun r e => (hr r e).2), blk_kept e2.2 hg (fun r e => (hr r e).2)⟩, e3⟩)
    ?assign ?body ?done ?stop
  case assign =>
    rintro l pre x W K ⟨⟨⟨⟨hq, bR1⟩, bF1⟩, bP1⟩, hB1, hS1⟩ hK
    gi_wp2
    have g : Gr W ((W.alloc (.cells #[.int .i32 (pAt L x).1, .int .i32 (pAt L x).2] 28)).alloc (.cells #[.int .i32 (pAt L (x + 1)).1, .int .i32 (pAt L (x + 1)).2] 28)) := ((Gr.refl _).alloc _).alloc _
    refine hK _ _ (g.from _) (Kq.gr (fun b hb => Nat.lt_of_lt_of_le (hps b hb) hS1) g) ⟨⟨⟨⟨hq, (bR1.alloc _).alloc _⟩, (bF1.alloc _).alloc _⟩, bP1.gr g⟩, hB1.trans (g.below.mono hB1.size), Nat.le_trans hS1 g.size⟩
      ⟨W.heap.size, W.heap.size + 1, ⟨hS1, by omega⟩, ⟨(PtB.new W _).alloc _, by have := PtB.new (W.alloc (.cells #[.int .i32 (pAt L x).1, .int .i32 (pAt L x).2] 28)) (pAt L (x + 1)); rwa [World.size_alloc] at this⟩, rfl⟩
  case body =>
    rintro l pre x a' W hl ⟨r, hr⟩ ⟨⟨⟨⟨hq, bR1⟩, bF1⟩, bP1⟩, hB1, hS1⟩ ⟨B1, B2, ⟨hB1', hB2'⟩, ⟨q1, q2⟩, rfl⟩ hlt
    have cF := bF1.cell
    have cR := bR1.cell
    have fR := bR1.frozen
    have c10 := q1.c0
    have c11 := q1.c1
    have c20 := q2.c0
    have c21 := q2.c1
    have h1' : 1 ≤ n - 1 - 1 := by omega
    have HE : Hid (∀ W, PtB W Bp p → Calls Tryz.prog 129 #[pt (pAt L x).1 (pAt L x).2, pt (pAt L (x + 1)).1 (pAt L (x + 1)).2, .pointer (some ⟨Bp, 0, none⟩)] W fun e w' => e = .returned (.bool (onE p (pAt L x) (pAt L (x + 1)))) ∧ Gr W w') := fun W h => edge1_any p _ _ hp (pAt_32 hL x) (pAt_32 hL (x + 1)) Bp W h
    cases hv : onE p (pAt L x) (pAt L (x + 1)) with
    | true =>
      rw [hv] at HE
      gi_wp2_with (refine ⟨trivial, ?_⟩; refine (CallsIn.inRound l (callsIn_wide.2 (HE.out _ bP1))).mono ?_; rintro e w' ⟨rfl, g⟩; have cR2 := below_cell cR g.below; have fR2 := (bR1.kept g.grownBy (by simp)).frozen)
      have bR2 := bR1.kept g.grownBy (by simp)
      exact ⟨(g.from _).trans ((KeepsOthers.setCell _ _ _).from _), ⟨⟨rfl, x, List.mem_append.2 (.inr (by simp)), hv⟩, bR2.set _⟩, (hB1.trans (g.below.mono hB1.size)).setCell (p := ⟨w.heap.size + 1, 0, none⟩) (by simp) _⟩
    | false =>
      rw [hv] at HE
      gi_wp2_with (refine ⟨trivial, ?_⟩; refine (CallsIn.inRound l (callsIn_wide.2 (HE.out _ bP1))).mono ?_; rintro e w' ⟨rfl, g⟩)
      exact ⟨g.from _, Kq.gr (fun b hb => Nat.lt_of_lt_of_le (hps b hb) hS1) g, ⟨⟨⟨fun y hy => (List.mem_append.1 hy).elim (hq y) (fun e => by simp at e; subst e; exact hv), bR1.kept g.grownBy (by simp)⟩, bF1.kept g.grownBy (by simp)⟩, bP1.gr g⟩, hB1.trans (g.below.mono hB1.size), Nat.le_trans hS1 g.size⟩
  case done =>
    rintro D zs W hD rfl ⟨⟨⟨⟨hq, bR1⟩, bF1⟩, bP1⟩, hB1, hS1⟩ hK
    have cR := bR1.cell
    have fR := bR1.frozen
    gi_wp2
    have hK' := (KeepsOthers.setCell W ⟨w.heap.size + 1, 0, none⟩ (.bool false)).same D _ hK rfl
    refine ⟨by simp, .inl ⟨_, _, rfl, run_takeDeferred hK', ?_⟩⟩
    have hc5 := cell_kept (bR1.set (.bool false)).cell (grownBy_putObj' _ D (.deferred none)) (fun r e => by cases e; exact ⟨_, hK', rfl⟩)
    refine ⟨.bool false, ?_, ?_, (hB1.setCell (p := ⟨w.heap.size + 1, 0, none⟩) (by simp) _).trans (belowK_b (w := w) (Nat.le_refl _) _ D _ _ (by omega) hK' rfl rfl)⟩
    · simp [results, Tryz.f128, go_sem, hc5]
    · rw [show edgeL L p = false from List.any_eq_false.2 (fun x hx => by rw [hq x hx]; simp)]
  case stop =>
    rintro D c pre W hD ⟨k, hk, rfl⟩ ⟨⟨⟨rfl, x, hx, hy⟩, bR1⟩, hB1⟩ hK
    gi_wp2
    refine ⟨by simp, .inl ⟨_, _, rfl, run_takeDeferred hK, ?_⟩⟩
    have hc5 := cell_kept bR1.cell (grownBy_putObj' _ D (.deferred none)) (fun r e => by cases e; exact ⟨_, hK, rfl⟩)
    refine ⟨.bool true, ?_, ?_, hB1.trans (belowK_b (w := w) (Nat.le_refl _) W D _ _ (by omega) hK rfl rfl)⟩
    · simp [results, Tryz.f128, go_sem, hc5]
    · rw [show edgeL L p = true from List.any_eq_true.2 ⟨x, by simp at hx ⊢; omega, hy⟩]

set_option maxRecDepth 100000 in
set_option maxHeartbeats 2000000 in
theorem edge_any (ao : Option Addr) (cap : Nat) (L : List (Int × Int)) (hL : All32 L) (hlen : L.length ≤ 17592186043904) (p : Int × Int) (hp : P32 p) (w : World) (hP : Pts w ao L) :
    Calls Tryz.prog 124 #[.slice ao L.length cap, pt p.1 p.2] w fun e w' => e = .returned (.bool (edgeL L p)) ∧ Below w.heap.size w w' := by
  have g : Gr w (w.alloc (.cells #[.int .i32 p.1, .int .i32 p.2] 28)) := (Gr.refl _).alloc _
  have C : Hid (Calls Tryz.prog 128 #[.slice ao L.length cap, .func (.func 129) #[] #[.pointer (some ⟨w.heap.size, 0, none⟩)]] (w.alloc (.cells #[.int .i32 p.1, .int .i32 p.2] 28)) fun e w' => e = .returned (.bool (edgeL L p)) ∧ Below (w.alloc (.cells #[.int .i32 p.1, .int .i32 p.2] 28)).heap.size (w.alloc (.cells #[.int .i32 p.1, .int .i32 p.2] 28)) w') :=
    callsIn_wide.1 (some_in 9 (by omega) ao cap L hL hlen p hp w.heap.size _ (PtB.new w p) (hP.mono g.below))
  go_enter Tryz.func124, Tryz.ntmps124
  go_wp2_with (go_at_call 128; refine C.out.mono ?_; rintro e w' ⟨rfl, g'⟩)
  go_ret
  exact ⟨rfl, g.below.trans (g'.mono g.size)⟩
end
end Go.Proofs.YtgcofpfjdplopaaGreat
