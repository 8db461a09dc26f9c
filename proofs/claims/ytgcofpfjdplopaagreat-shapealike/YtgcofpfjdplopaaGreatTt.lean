/- inside's total: what all sides together are worth. -/
import Derived.Test.YtgcofpfjdplopaaGreatEg
namespace Go.Proofs.YtgcofpfjdplopaaGreat
section
open Go.RowKit Go.Shelf Go.Sort
attribute [local go_sem] Oper.semAt_some wide_fn
attribute [local simp] wide_fn

def totW (f : Int × Int → Int × Int → Int) (L : List (Int × Int)) (pre : List Nat) : Int := pre.foldl (fun s x => wrap64 (s + f (pAt L x) (pAt L (x + 1)))) 0
theorem totW_snoc (f : Int × Int → Int × Int → Int) (L : List (Int × Int)) (pre : List Nat) (x : Nat) : totW f L (pre ++ [x]) = wrap64 (totW f L pre + f (pAt L x) (pAt L (x + 1))) := by simp [totW]

set_option maxRecDepth 100000 in
set_option maxHeartbeats 4000000 in
theorem total_in (n : Nat) (hn : 9 ≤ n) (ao : Option Addr) (cap : Nat) (L : List (Int × Int)) (hL : All32 L) (hlen : L.length ≤ 17592186043904) (k : Nat) (lb : Array Value) (f : Int × Int → Int × Int → Int)
    (w : World) (hP : Pts w ao L) (he : ∀ args w, (callFunc k args).run Tryz.prog w = .ok (.enter k args) w)
    (hf : ∀ W a b, Below w.heap.size w W → P32 a → P32 b → Calls Tryz.prog k (#[pt a.1 a.2, pt b.1 b.2] ++ lb) W fun e w' => e = .returned (.int .i64 (f a b)) ∧ Gr W w') :
    CallsIn Fence.wide n Tryz.prog 131 #[.slice ao L.length cap, .func (.func k) #[] lb] w fun e w' => e = .returned (.int .i64 (totW f L (List.range L.length))) ∧ Below w.heap.size w w' := by
  refine callsIn_of_wp_marks Tryz.func131 rfl trivial ?_ rfl
  simp only [Tryz.ntmps131, List.size_toArray, List.length_cons, List.length_nil, Nat.reduceAdd, Nat.reduceSub, Array.replicate_succ, Array.replicate_zero, List.push_toArray, List.append_toArray, List.nil_append, List.cons_append]
  have h1 : 1 ≤ n := by omega
  gi_wp2_with (refine (sides_in _ _ _ _ _).mono ?_; rintro e w' ⟨rfl, rfl⟩)
  have bF := ((Boxed.new w 118 (.func (.func k) #[] lb)).alloc (.cells #[.int .i64 0] 2)).alloc (.cells #[.slice ao L.length cap] 23)
  have bR := (Boxed.new (w.alloc (.cells #[.func (.func k) #[] lb] 118)) 2 (.int .i64 0)).alloc (.cells #[.slice ao L.length cap] 23)
  have bS := Boxed.new ((w.alloc (.cells #[.func (.func k) #[] lb] 118)).alloc (.cells #[.int .i64 0] 2)) 23 (.slice ao L.length cap)
  simp only [World.size_alloc] at bR bS
  have hG0 : Gr w (((w.alloc (.cells #[.func (.func k) #[] lb] 118)).alloc (.cells #[.int .i64 0] 2)).alloc (.cells #[.slice ao L.length cap] 23)) := (((Gr.refl _).alloc _).alloc _).alloc _
  have hsz : (((w.alloc (.cells #[.func (.func k) #[] lb] 118)).alloc (.cells #[.int .i64 0] 2)).alloc (.cells #[.slice ao L.length cap] 23)).heap.size = w.heap.size + 3 := by simp
  obtain ⟨W0, hW0⟩ : ∃ W0, ((w.alloc (.cells #[.func (.func k) #[] lb] 118)).alloc (.cells #[.int .i64 0] 2)).alloc (.cells #[.slice ao L.length cap] 23) = W0 := ⟨_, rfl⟩
  rw [hW0] at bF bR bS hG0 hsz ⊢
  clear hW0
  have hps : ∀ b, (b < w.heap.size ∨ b = w.heap.size + 1 + 1) → b < W0.heap.size := fun b hb => by omega
  have hPI : PtsIn (fun b => b < w.heap.size ∨ b = w.heap.size + 1 + 1) W0 ao L := PtsIn.at hP (fun b hb => .inl hb) hG0.below
  refine wpIn_rangeFunc_ownH rfl h1 (gf := 146) (lb := #[.pointer (some ⟨w.heap.size + 1 + 1, 0, none⟩)]) rfl trivial (enters_of Tryz.func146 (by kernel_rfl) rfl)
    (sides_stops (n - 1) (w.heap.size + 1 + 1) (fun b => b < w.heap.size ∨ b = w.heap.size + 1 + 1) (.inr rfl) ao cap L hlen W0 hps bS.cell hPI) Kq.t (Kq.b hps) (Below.refl _ _) (fun _ => rfl)
    (fun pre W => (Boxed W (w.heap.size + 1) 2 (.int .i64 (totW f L pre)) ∧ Boxed W w.heap.size 118 (.func (.func k) #[] lb)) ∧ (Below w.heap.size w W ∧ W0.heap.size ≤ W.heap.size))
    (fun _ _ _ => False)
    (OwnFrom.and (OwnFrom.and (Own.from (boxed_own _ _ _) _) (Own.from (boxed_own _ _ _) _)) (OwnFrom.and (ownFrom_below (Nat.le_refl _) (by omega)) (size_own _ _)))
    (fun _ _ _ _ _ hs _ _ => hs)
    ⟨⟨bR, bF⟩, hG0.below, Nat.le_refl _⟩
    (fun x a' W => ∃ B1 B2, (W0.heap.size ≤ B1 ∧ W0.heap.size ≤ B2) ∧ (PtB W B1 (pAt L x) ∧ PtB W B2 (pAt L (x + 1))) ∧ a' = { tmps := #[.slice ao L.length cap, .func (.func k) #[] lb, undef, .pointer (some ⟨w.heap.size, 0, none⟩), .int .i64 0, .pointer (some ⟨w.heap.size + 1, 0, none⟩), .pointer (some ⟨B1, 0, none⟩), .pointer (some ⟨B2, 0, none⟩), .slice ao L.length cap, .func (.func 146) #[] #[.pointer (some ⟨w.heap.size + 1 + 1, 0, none⟩)], pt (pAt L x).1 (pAt L x).2, pt (pAt L (x + 1)).1 (pAt L (x + 1)).2, undef, undef, undef, undef, undef, undef, undef], defers := [] })
    (fun x a' _ X Y row hs hg hr => by obtain ⟨B1, B2, e1, e2, e3⟩ := hs; exact ⟨B1, B2, e1, ⟨blk_kept e2.1 hg (fun r e => (hr r e).2), blk_kept e2.2 hg (fun r e => (hr r e).2)⟩, e3⟩)
    ?assign ?body ?done ?stop
  case assign =>
    rintro l pre x W K ⟨⟨bR1, bF1⟩, hB1, hS1⟩ hK
    gi_wp2
    have g : Gr W ((W.alloc (.cells #[.int .i32 (pAt L x).1, .int .i32 (pAt L x).2] 28)).alloc (.cells #[.int .i32 (pAt L (x + 1)).1, .int .i32 (pAt L (x + 1)).2] 28)) := ((Gr.refl _).alloc _).alloc _
    refine hK _ _ (g.from _) (Kq.gr (fun b hb => Nat.lt_of_lt_of_le (hps b hb) hS1) g) ⟨⟨(bR1.alloc _).alloc _, (bF1.alloc _).alloc _⟩, hB1.trans (g.below.mono hB1.size), Nat.le_trans hS1 g.size⟩
      ⟨W.heap.size, W.heap.size + 1, ⟨hS1, by omega⟩, ⟨(PtB.new W _).alloc _, by have := PtB.new (W.alloc (.cells #[.int .i32 (pAt L x).1, .int .i32 (pAt L x).2] 28)) (pAt L (x + 1)); rwa [World.size_alloc] at this⟩, rfl⟩
  case body =>
    rintro l pre x a' W hl ⟨r, hr⟩ ⟨⟨bR1, bF1⟩, hB1, hS1⟩ ⟨B1, B2, ⟨hB1', hB2'⟩, ⟨q1, q2⟩, rfl⟩ hlt
    have cF := cell_gr bF1.cell
    have cR := cell_gr bR1.cell
    have c10 := cell_gr q1.c0
    have c11 := cell_gr q1.c1
    have c20 := cell_gr q2.c0
    have c21 := cell_gr q2.c1
    have h1' : 1 ≤ n - 1 - 1 := by omega
    have HE : Hid (∀ n' os, Calls Tryz.prog k (#[pt (pAt L x).1 (pAt L x).2, pt (pAt L (x + 1)).1 (pAt L (x + 1)).2] ++ lb) (grow (W.drewN n') os) fun e w' => e = .returned (.int .i64 (f (pAt L x) (pAt L (x + 1)))) ∧ ∃ p : GrownBy, w' = grow (W.drewN p.n) p.os) := fun n' os => Calls.grown_of (hf _ _ _ (hB1.trans ((Gr.below ⟨n', os, rfl⟩).mono hB1.size)) (pAt_32 hL x) (pAt_32 hL (x + 1)))
    gi_wp2
    refine region_head_grown 6 (by kernel_rfl) (by kernel_rfl) (by simp) (by kernel_rfl) ?_
    simp only [List.take_succ_cons, List.take_zero, List.drop_succ_cons, List.drop_zero]
    repeat (gi_big_quiet_step (exact CallsIn.inRound l (callsIn_wide.2 (HE.out _ _))))
    refine wpQuietIn_nil ?_
    intro _ hw'
    obtain ⟨⟨dq, osq⟩, hw''⟩ := hw'
    subst hw''
    have g : Gr W (grow (W.drewN dq) osq) := ⟨dq, osq, rfl⟩
    generalize grow (W.drewN dq) osq = W2 at *
    have bR2 := bR1.kept g.grownBy (by simp)
    have cR2 := bR2.cell
    have fR2 := bR2.frozen
    gi_wp2
    have hp1 : ¬ (w.heap.size + 1 < w.heap.size ∨ w.heap.size + 1 = w.heap.size + 1 + 1) := by omega
    refine ⟨(g.from _).trans ((KeepsOthers.setCell _ _ _).from _), (Kq.gr (fun b hb => Nat.lt_of_lt_of_le (hps b hb) hS1) g).t ⟨Kp.set (a := ⟨w.heap.size + 1, 0, none⟩) hp1 _, by simp⟩, ⟨?_, (bF1.kept g.grownBy (by simp)).other (by omega) _⟩, (hB1.trans (g.below.mono hB1.size)).setCell (p := ⟨w.heap.size + 1, 0, none⟩) (by simp) _, by have := g.size; simp; omega⟩
    rw [totW_snoc]
    exact bR2.set _
  case done =>
    rintro D zs W hD rfl ⟨⟨bR1, bF1⟩, hB1, hS1⟩ hK
    have cR := bR1.cell
    gi_wp2
    refine ⟨by simp, .inl ⟨_, _, rfl, run_takeDeferred hK, ?_⟩⟩
    exact ⟨_, results_tmp rfl _ _ _, rfl, hB1.trans (belowK_b (w := w) (Nat.le_refl _) W D _ _ (by omega) hK rfl rfl)⟩
  case stop =>
    rintro D c pre W _ _ h _
    exact h.elim
end
end Go.Proofs.YtgcofpfjdplopaaGreat
