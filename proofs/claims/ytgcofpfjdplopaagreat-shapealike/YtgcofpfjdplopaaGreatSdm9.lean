/- Whether a segment has a point of a ring's edges: shape's sideMeets. -/
import Derived.Test.YtgcofpfjdplopaaGreatSt
import Derived.Test.YtgcofpfjdplopaaGreatSg10
namespace Go.Proofs.YtgcofpfjdplopaaGreat
section
set_option linter.unusedSimpArgs false
open Go.RowKit Go.Shelf Go.Sort
attribute [local go_sem] Oper.semAt_some wide_fn
attribute [local simp] wide_fn

/-- Whether edge x has a point of the segment. -/
def tchB (L : List (Int × Int)) (p q : Int × Int) (x : Nat) : Bool := touchA (pAt L x) (pAt L (x + 1)) p q
def sdB (L : List (Int × Int)) (p q : Int × Int) : Bool := (List.range L.length).any (tchB L p q)
theorem sd_no {L : List (Int × Int)} {p q : Int × Int} (h : ∀ x ∈ List.range L.length, tchB L p q x = false) : sdB L p q = false := by
  unfold sdB; rw [List.any_eq_false]; intro x hx; rw [h x hx]; simp
theorem sd_yes {L : List (Int × Int)} {p q : Int × Int} {x : Nat} (hx : x < L.length) (h : tchB L p q x = true) : sdB L p q = true := by
  unfold sdB; rw [List.any_eq_true]; exact ⟨x, List.mem_range.2 hx, h⟩
theorem ptb_own {β : Type} (B b : Nat) (p : Int × Int) : OwnFrom B (fun (_ : β) (W : World) => PtB W b p) := fun _ _ _ _ hs hg hr => blk_kept hs hg (fun r e => (hr r e).2)
set_option maxRecDepth 100000 in
set_option maxHeartbeats 8000000 in
theorem side_in (n : Nat) (hn : 9 ≤ n) (vo : Option Addr) (cv : Nat) (L : List (Int × Int)) (hlen : L.length ≤ 17592186043904) (hno : vo = none → L.length = 0 ∧ cv = 0) (p q : Int × Int) (w : World) (hP : Pts w vo L) :
    CallsIn Fence.wide n Tryz.prog 192 #[.slice vo L.length cv, pt p.1 p.2, pt q.1 q.2] w fun e w' => e = .returned (.bool (sdB L p q)) ∧ RowKit.Below w.heap.size w w' := by
  refine callsIn_of_wp_marks Tryz.func192 rfl trivial ?_ rfl
  simp only [Tryz.ntmps192, List.size_toArray, List.length_cons, List.length_nil, Nat.reduceAdd, Nat.reduceSub, Array.replicate_succ, Array.replicate_zero, List.push_toArray, List.append_toArray, List.nil_append, List.cons_append]
  have h1 : 1 ≤ n := by omega
  obtain ⟨w0, hw0⟩ : ∃ w0, w0 = ((w.alloc (.cells #[.int .i32 p.1, .int .i32 p.2] 28)).alloc (.cells #[.int .i32 q.1, .int .i32 q.2] 28)).alloc (.cells #[.bool false] 4) := ⟨_, rfl⟩
  have g0 : Gr w w0 := by rw [hw0]; exact (((Gr.refl _).alloc _).alloc _).alloc _
  have C : Hid (Calls Tryz.prog 121 #[.slice vo L.length cv] w0 fun e w' => ∃ Bs ro rc, e = .returned (.func (.func 126) #[] #[.pointer (some ⟨Bs, 0, none⟩)]) ∧ w0.heap.size ≤ Bs ∧ Bs < w'.heap.size ∧ w'.cell? ⟨Bs, 0, none⟩ = some (.slice ro L.length rc) ∧ PtsIn (fun b => w0.heap.size ≤ b ∧ b < w'.heap.size) w' ro L ∧ RowKit.Below w0.heap.size w0 w') := edges_any vo cv L _ hlen hno (hP.mono g0.below)
  have bp : PtB w0 w.heap.size p := by rw [hw0]; exact ((PtB.new w p).alloc _).alloc _
  have bq : PtB w0 (w.heap.size + 1) q := by
    rw [hw0]; have := (PtB.new (w.alloc (.cells #[.int .i32 p.1, .int .i32 p.2] 28)) q).alloc (.cells #[.bool false] 4); rwa [World.size_alloc] at this
  have b0 : Boxed w0 (w.heap.size + 2) 4 (.bool false) := by
    rw [hw0]; have := Boxed.new ((w.alloc (.cells #[.int .i32 p.1, .int .i32 p.2] 28)).alloc (.cells #[.int .i32 q.1, .int .i32 q.2] 28)) 4 (.bool false); simpa using this
  have hs2 : w0.heap.size = w.heap.size + 3 := by rw [hw0]; simp
  rw [hw0] at C
  gi_wp2_with (refine (callsIn_wide.2 C.out).mono ?_; rintro e w' ⟨Bs, ro, rc, rfl, e1, e2, e3, e4, e5⟩)
  rw [← hw0] at e1 e4 e5
  have b0' : Boxed w' (w.heap.size + 2) 4 (.bool false) := by unfold Boxed; rw [e5.block _ b0.lt]; exact b0
  have bp' : PtB w' w.heap.size p := by unfold PtB; rw [e5.block _ (by omega)]; exact bp
  have bq' : PtB w' (w.heap.size + 1) q := by unfold PtB; rw [e5.block _ (by omega)]; exact bq
  have hBw : RowKit.Below w.heap.size w w' := g0.below.trans (e5.mono g0.size)
  rw [hs2] at e1
  have hps : ∀ b, (w.heap.size + 3 ≤ b ∧ b < w'.heap.size) → b < w'.heap.size := fun b hb => hb.2
  have hPI : PtsIn (fun b => w.heap.size + 3 ≤ b ∧ b < w'.heap.size) w' ro L := by rw [hs2] at e4; exact e4
  have hsz : w.heap.size + 3 ≤ w'.heap.size := by have := e5.size; omega
  clear C b0 bp bq g0 hs2 e4 e5 hP hno hw0
  refine wpIn_rangeFunc_ownH rfl h1 (gf := 126) (lb := #[.pointer (some ⟨Bs, 0, none⟩)]) rfl trivial (enters_of Tryz.func126 (by kernel_rfl) rfl)
    (edges_stops (n - 1) Bs (fun b => w.heap.size + 3 ≤ b ∧ b < w'.heap.size) ⟨e1, e2⟩ ro rc L hlen w' hps e3 hPI) Ke.t (Ke.b hps) (Below.refl _ _) (fun _ => rfl)
    (fun pre W => (((∀ x ∈ pre, tchB L p q x = false) ∧ (PtB W w.heap.size p ∧ PtB W (w.heap.size + 1) q)) ∧ Boxed W (w.heap.size + 2) 4 (.bool false)) ∧ (RowKit.Below w.heap.size w W ∧ w'.heap.size ≤ W.heap.size))
    (fun c pre W => ((c = .ret ∧ ∃ r x, pre = r ++ [x] ∧ tchB L p q x = true) ∧ Boxed W (w.heap.size + 2) 4 (.bool true)) ∧ RowKit.Below w.heap.size w W)
    (OwnFrom.and (OwnFrom.and (OwnFrom.and (ownFrom_pure _ _) (OwnFrom.and (PtB.own _ _ _) (PtB.own _ _ _))) (Own.from (boxed_own _ _ _) _)) (OwnFrom.and (ownFrom_below (Nat.le_refl _) (by omega)) (size_own _ _)))
    (fun c => OwnFrom.and (OwnFrom.and (ownFrom_pure _ _) (Own.from (boxed_own _ _ _) _)) (ownFrom_below (Nat.le_refl _) (by omega)))
    ⟨⟨⟨by simp, bp', bq'⟩, b0'⟩, hBw, Nat.le_refl _⟩
    (fun x a' W => ∃ B1 B2, (w'.heap.size ≤ B1 ∧ w'.heap.size ≤ B2) ∧ (PtB W B1 (pAt L x) ∧ PtB W B2 (pAt L (x + 1))) ∧ a' = { tmps := #[.slice vo L.length cv, pt p.1 p.2, pt q.1 q.2, undef, .pointer (some ⟨w.heap.size, 0, none⟩), .pointer (some ⟨w.heap.size + 1, 0, none⟩), .pointer (some ⟨w.heap.size + 1 + 1, 0, none⟩), .pointer (some ⟨B1, 0, none⟩), .pointer (some ⟨B2, 0, none⟩), .slice vo L.length cv, .func (.func 126) #[] #[.pointer (some ⟨Bs, 0, none⟩)], pt (pAt L x).1 (pAt L x).2, pt (pAt L (x + 1)).1 (pAt L (x + 1)).2, undef, undef, undef, undef, undef], defers := [] })
    (fun x a' _ X Y row hs hg hr => by obtain ⟨B1, B2, e1, e2, e3⟩ := hs; exact ⟨B1, B2, e1, ⟨blk_kept e2.1 hg (fun r e => (hr r e).2), blk_kept e2.2 hg (fun r e => (hr r e).2)⟩, e3⟩)
    ?assign ?body ?done ?stop
  case assign =>
    rintro l pre x W K ⟨⟨⟨hq, xp, xq⟩, bR⟩, hB1, hS1⟩ hK
    gi_wp2
    have g : Gr W ((W.alloc (.cells #[.int .i32 (pAt L x).1, .int .i32 (pAt L x).2] 28)).alloc (.cells #[.int .i32 (pAt L (x + 1)).1, .int .i32 (pAt L (x + 1)).2] 28)) := ((Gr.refl _).alloc _).alloc _
    refine hK _ _ (g.from _) (Ke.gr (fun b hb => Nat.lt_of_lt_of_le (hps b hb) hS1) g) ⟨⟨⟨hq, xp.gr g, xq.gr g⟩, (bR.alloc _).alloc _⟩, hB1.trans (g.below.mono hB1.size), Nat.le_trans hS1 g.size⟩
      ⟨W.heap.size, W.heap.size + 1, ⟨hS1, by omega⟩, ⟨(PtB.new W _).alloc _, by have := PtB.new (W.alloc (.cells #[.int .i32 (pAt L x).1, .int .i32 (pAt L x).2] 28)) (pAt L (x + 1)); rwa [World.size_alloc] at this⟩, rfl⟩
  case body =>
    rintro l pre x a' W hl ⟨r, hr⟩ ⟨⟨⟨hq, xp, xq⟩, bR⟩, hB1, hS1⟩ ⟨B1, B2, ⟨hB1', hB2'⟩, ⟨q1, q2⟩, rfl⟩ hlt
    have c10 := q1.c0
    have c11 := q1.c1
    have c20 := q2.c0
    have c21 := q2.c1
    have c30 := xp.c0
    have c31 := xp.c1
    have c40 := xq.c0
    have c41 := xq.c1
    have TC : Hid (CallsIn (Fence.wide.inRound l) (n - 1 - 1 - 1) Tryz.prog 123 #[pt (pAt L x).1 (pAt L x).2, pt (pAt L (x + 1)).1 (pAt L (x + 1)).2, pt p.1 p.2, pt q.1 q.2] W fun e w' => e = .returned (.bool (tchB L p q x)) ∧ Gr W w') := CallsIn.inRound l (callsIn_wide.2 (Touch_any (pAt L x) (pAt L (x + 1)) p q W))
    generalize (pAt L x).1 = X1 at *
    generalize (pAt L x).2 = X2 at *
    generalize (pAt L (x + 1)).1 = X3 at *
    generalize (pAt L (x + 1)).2 = X4 at *
    cases hv : tchB L p q x with
    | true =>
      rw [hv] at TC
      gi_wp2_with (refine ⟨fun _ => by omega, ?_⟩; refine TC.out.mono ?_; rintro e w1 ⟨rfl, g1⟩; have bR1 := bR.kept g1.grownBy (by simp); have cR2 := bR1.cell; have fR2 := bR1.frozen)
      exact ⟨(g1.from _).trans ((KeepsOthers.setCell _ _ _).from _), ⟨⟨rfl, pre, x, rfl, hv⟩, bR1.set _⟩, (hB1.trans (g1.below.mono hB1.size)).setCell (p := ⟨w.heap.size + 2, 0, none⟩) (by simp) _⟩
    | false =>
      rw [hv] at TC
      gi_wp2_with (refine ⟨fun _ => by omega, ?_⟩; refine TC.out.mono ?_; rintro e w1 ⟨rfl, g1⟩)
      exact ⟨g1.from _, Ke.gr (fun b hb => Nat.lt_of_lt_of_le (hps b hb) hS1) g1, ⟨⟨fun y hy => (List.mem_append.1 hy).elim (hq y) (fun e => by simp at e; subst e; exact hv), xp.gr g1, xq.gr g1⟩, bR.kept g1.grownBy (by simp)⟩, hB1.trans (g1.below.mono hB1.size), Nat.le_trans hS1 g1.size⟩
  case done =>
    rintro D zs W hD rfl ⟨⟨⟨hq, xp, xq⟩, bR⟩, hB1, hS1⟩ hK
    have cR := bR.cell
    have fR := bR.frozen
    gi_wp2
    have hK' := (KeepsOthers.setCell W ⟨w.heap.size + 1 + 1, 0, none⟩ (.bool false)).same D _ hK rfl
    refine ⟨by simp, .inl ⟨_, _, rfl, run_takeDeferred hK', ?_⟩⟩
    have hc5 := cell_kept (bR.set (.bool false)).cell (grownBy_putObj' _ D (.deferred none)) (fun r e => by cases e; exact ⟨_, hK', rfl⟩)
    refine ⟨.bool false, ?_, ?_, (hB1.setCell (p := ⟨w.heap.size + 1 + 1, 0, none⟩) (by simp; omega) _).trans (belowK_b (w := w) (Nat.le_refl _) _ D _ _ (by omega) hK' rfl rfl)⟩
    · simp [results, Tryz.f192, go_sem, hc5]
    · rw [sd_no hq]
  case stop =>
    rintro D c pre W hD ⟨k, hk, rfl⟩ ⟨⟨⟨rfl, r, x, hqx, hx⟩, bR⟩, hB1⟩ hK
    gi_wp2
    refine ⟨by simp, .inl ⟨_, _, rfl, run_takeDeferred hK, ?_⟩⟩
    have hc5 := cell_kept bR.cell (grownBy_putObj' _ D (.deferred none)) (fun r e => by cases e; exact ⟨_, hK, rfl⟩)
    refine ⟨.bool true, ?_, ?_, hB1.trans (belowK_b (w := w) (Nat.le_refl _) W D _ _ (by omega) hK rfl rfl)⟩
    · simp [results, Tryz.f192, go_sem, hc5]
    · have hm : x ∈ List.range k := by rw [hqx]; simp
      rw [sd_yes (Nat.lt_of_lt_of_le (List.mem_range.1 hm) (by omega)) hx]
end
end Go.Proofs.YtgcofpfjdplopaaGreat
