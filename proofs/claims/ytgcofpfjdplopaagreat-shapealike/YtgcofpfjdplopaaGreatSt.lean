/- ring's standing, outside, IndexFunc. -/
import Derived.Test.YtgcofpfjdplopaaGreatEd
namespace Go.Proofs.YtgcofpfjdplopaaGreat
section
open Go.RowKit Go.Shelf Go.Sort
attribute [local go_sem] Oper.semAt_some wide_fn
attribute [local simp] wide_fn

/-- The first that is so; -1, if none is. -/
def fstI (q : Nat → Bool) (n : Nat) : Int := match (List.range n).find? q with
  | some i => (i : Int)
  | none => -1
theorem fst_none {q : Nat → Bool} {n : Nat} (h : ∀ i, i < n → q i = false) : fstI q n = -1 := by
  unfold fstI
  rw [List.find?_eq_none.2 (fun x hx => by rw [h x (List.mem_range.1 hx)]; simp)]
theorem fst_some {q : Nat → Bool} {n k : Nat} (hk : k < n) (h : ∀ i, i < k → q i = false) (hq : q k = true) : fstI q n = k := by
  unfold fstI
  have : (List.range n).find? q = some k := by
    rw [List.find?_eq_some_iff_append]
    refine ⟨hq, List.range k, (List.range' (k + 1) (n - (k + 1))), ?_, fun a ha => by rw [h a (List.mem_range.1 ha)]; rfl⟩
    rw [List.range_eq_range', List.range_eq_range', show n = k + (1 + (n - (k + 1))) by omega, ← List.range'_append_1, ← List.range'_append_1, Nat.zero_add]
    simp
    omega
  rw [this]

set_option maxRecDepth 100000 in
set_option maxHeartbeats 2000000 in
theorem outside_any (x y : Int) (w : World) : Calls Tryz.prog 110 #[pt x y] w fun e w' => e = .returned (.bool (!(latB x && latB y))) ∧ Gr w w' := by
  have C : Hid (∀ w, Calls Tryz.prog 80 #[pt x y] w fun e w' => e = .returned (.bool (latB x && latB y)) ∧ Gr w w') := in_any x y
  generalize (latB x && latB y) = B at *
  go_enter Tryz.func110, Tryz.ntmps110
  go_wp2_with (go_at_call 80; refine (C.out _).mono ?_; rintro e w' ⟨rfl, g⟩)
  go_ret
  exact ⟨rfl, ((Gr.refl _).alloc _).trans g⟩

def outB (L : List (Int × Int)) (i : Nat) : Bool := !(latB (pAt L i).1 && latB (pAt L i).2)

set_option maxRecDepth 100000 in
set_option maxHeartbeats 4000000 in
theorem index_any (ao : Option Addr) (cap : Nat) (L : List (Int × Int)) (hlen : L.length ≤ 17592186043904) (w : World) (hP : Pts w ao L) :
    Calls Tryz.prog 109 #[.slice ao L.length cap, .func (.func 110) #[] #[]] w fun e w' => e = .returned (.int .i64 (fstI (outB L) L.length)) ∧ Gr w w' := by
  have HP : Hid (Pts w ao L) := hP
  clear hP
  go_enter Tryz.func109, Tryz.ntmps109
  go_wp2
  go_loopw [5, 8] (fun _ i wr => ∃ k : Nat, k ≤ L.length ∧ i = .int .i64 k ∧ Hid (∀ j, j < k → outB L j = false) ∧ Gr w wr) (fun _ i _ => L.length - (intOf i).toNat)
  case atStart => exact ⟨0, by omega, rfl, (by intro j hj; omega), Gr.refl _⟩
  case round =>
    obtain ⟨k, hk, rfl, hno, hG⟩ := hrel
    by_cases hlt : k < L.length
    · obtain ⟨b, off, rfl, c0, c1⟩ := (HP.out.mono hG.below) k hlt
      have e : pAt L k = L.getD k (0, 0) := pAt_lt hlt
      have C : Hid (∀ w, Calls Tryz.prog 110 #[pt (L.getD k (0, 0)).1 (L.getD k (0, 0)).2] w fun e w' => e = .returned (.bool (outB L k)) ∧ Gr w w') := fun w => by unfold outB; rw [e]; exact outside_any _ _ w
      clear e
      generalize (L.getD k (0, 0)).1 = X at *
      generalize (L.getD k (0, 0)).2 = Y at *
      cases hv : outB L k with
      | true =>
        have hr : Hid (fstI (outB L) L.length = k) := fst_some hlt hno.out hv
        rw [hv] at C
        go_wp2_with (go_at_call 110; refine (C.out _).mono ?_; rintro e w1 ⟨rfl, g1⟩)
        go_ret
        exact ⟨by rw [hr.out]; rfl, hG.trans g1⟩
      | false =>
        have hn2 : Hid (∀ j, j < k + 1 → outB L j = false) := fun j hj => by
          rcases Nat.lt_or_ge j k with h | h
          · exact hno.out j h
          · obtain rfl : j = k := by omega
            exact hv
        rw [hv] at C
        go_wp2_with (go_at_call 110; refine (C.out _).mono ?_; rintro e w1 ⟨rfl, g1⟩)
        go_roundw
        case rel => exact ⟨k + 1, by omega, by go_num, hn2, hG.trans g1⟩
        case measure => simp [intOf]; omega
    · have hkn : k = L.length := by omega
      have hr : Hid (fstI (outB L) L.length = -1) := fst_none (by rw [← hkn]; exact hno.out)
      clear hno
      subst hkn
      go_wp2
      go_ret
      exact ⟨by rw [hr.out]; rfl, hG⟩

def samB (L : List (Int × Int)) (i : Nat) : Bool := decide (pAt L i = pAt L (i + 1))

set_option maxRecDepth 100000 in
set_option maxHeartbeats 4000000 in
theorem standing_in (n : Nat) (hn : 9 ≤ n) (vo : Option Addr) (cv : Nat) (L : List (Int × Int)) (hlen : L.length ≤ 17592186043904) (hno : vo = none → L.length = 0 ∧ cv = 0) (w : World) (hP : Pts w vo L) :
    CallsIn Fence.wide n Tryz.prog 111 #[.slice vo L.length cv] w fun e w' => e = .returned (.int .i64 (fstI (samB L) L.length)) ∧ RowKit.Below w.heap.size w w' := by
  refine callsIn_of_wp_marks Tryz.func111 rfl trivial ?_ rfl
  simp only [Tryz.ntmps111, List.size_toArray, List.length_cons, List.length_nil, Nat.reduceAdd, Nat.reduceSub, Array.replicate_succ, Array.replicate_zero, List.push_toArray, List.append_toArray, List.nil_append, List.cons_append]
  have h1 : 1 ≤ n := by omega
  have g0 : Gr w ((w.alloc (.cells #[.int .i64 0] 3)).alloc (.cells #[.int .i64 0] 3)) := ((Gr.refl _).alloc _).alloc _
  have C : Hid (Calls Tryz.prog 121 #[.slice vo L.length cv] ((w.alloc (.cells #[.int .i64 0] 3)).alloc (.cells #[.int .i64 0] 3)) fun e w' => ∃ Bs ro rc, e = .returned (.func (.func 126) #[] #[.pointer (some ⟨Bs, 0, none⟩)]) ∧ ((w.alloc (.cells #[.int .i64 0] 3)).alloc (.cells #[.int .i64 0] 3)).heap.size ≤ Bs ∧ Bs < w'.heap.size ∧ w'.cell? ⟨Bs, 0, none⟩ = some (.slice ro L.length rc) ∧ PtsIn (fun b => ((w.alloc (.cells #[.int .i64 0] 3)).alloc (.cells #[.int .i64 0] 3)).heap.size ≤ b ∧ b < w'.heap.size) w' ro L ∧ RowKit.Below ((w.alloc (.cells #[.int .i64 0] 3)).alloc (.cells #[.int .i64 0] 3)).heap.size ((w.alloc (.cells #[.int .i64 0] 3)).alloc (.cells #[.int .i64 0] 3)) w') := edges_any vo cv L _ hlen hno (hP.mono g0.below)
  have b0 := (Boxed.new w 3 (.int .i64 0)).alloc (.cells #[.int .i64 0] 3)
  have b1 := Boxed.new (w.alloc (.cells #[.int .i64 0] 3)) 3 (.int .i64 0)
  rw [World.size_alloc] at b1
  have hs2 : ((w.alloc (.cells #[.int .i64 0] 3)).alloc (.cells #[.int .i64 0] 3)).heap.size = w.heap.size + 2 := by simp
  gi_wp2_with (refine (callsIn_wide.2 C.out).mono ?_; rintro e w' ⟨Bs, ro, rc, rfl, e1, e2, e3, e4, e5⟩)
  have b0' : Boxed w' w.heap.size 3 (.int .i64 0) := by unfold Boxed; rw [e5.block _ b0.lt]; exact b0
  have b1' : Boxed w' (w.heap.size + 1) 3 (.int .i64 0) := by unfold Boxed; rw [e5.block _ b1.lt]; exact b1
  have hBw : RowKit.Below w.heap.size w w' := g0.below.trans (e5.mono g0.size)
  rw [hs2] at e1
  have hps : ∀ b, (w.heap.size + 2 ≤ b ∧ b < w'.heap.size) → b < w'.heap.size := fun b hb => hb.2
  have hPI : PtsIn (fun b => w.heap.size + 2 ≤ b ∧ b < w'.heap.size) w' ro L := by rw [hs2] at e4; exact e4
  have hsz : w.heap.size + 2 ≤ w'.heap.size := by have := e5.size; omega
  clear C b0 b1 g0 hs2 e4 e5 hP hno
  refine wpIn_rangeFunc_ownH rfl h1 (gf := 126) (lb := #[.pointer (some ⟨Bs, 0, none⟩)]) rfl trivial (enters_of Tryz.func126 (by kernel_rfl) rfl)
    (edges_stops (n - 1) Bs (fun b => w.heap.size + 2 ≤ b ∧ b < w'.heap.size) ⟨e1, e2⟩ ro rc L hlen w' hps e3 hPI) Ke.t (Ke.b hps) (Below.refl _ _) (fun _ => rfl)
    (fun pre W => (((∀ x ∈ pre, samB L x = false) ∧ Boxed W (w.heap.size + 1) 3 (.int .i64 (pre.length : Int))) ∧ Boxed W w.heap.size 3 (.int .i64 0)) ∧ (RowKit.Below w.heap.size w W ∧ w'.heap.size ≤ W.heap.size))
    (fun c pre W => ((c = .ret ∧ ∃ q x, pre = q ++ [x] ∧ (∀ y ∈ q, samB L y = false) ∧ samB L x = true) ∧ Boxed W w.heap.size 3 (.int .i64 ((pre.length : Int) - 1))) ∧ RowKit.Below w.heap.size w W)
    (OwnFrom.and (OwnFrom.and (OwnFrom.and (ownFrom_pure _ _) (Own.from (boxed_own _ _ _) _)) (Own.from (boxed_own _ _ _) _)) (OwnFrom.and (ownFrom_below (Nat.le_refl _) (by omega)) (size_own _ _)))
    (fun c => OwnFrom.and (OwnFrom.and (ownFrom_pure _ _) (Own.from (boxed_own _ _ _) _)) (ownFrom_below (Nat.le_refl _) (by omega)))
    ⟨⟨⟨by simp, by simpa using b1'⟩, b0'⟩, hBw, Nat.le_refl _⟩
    (fun x a' W => ∃ B1 B2, (w'.heap.size ≤ B1 ∧ w'.heap.size ≤ B2) ∧ (PtB W B1 (pAt L x) ∧ PtB W B2 (pAt L (x + 1))) ∧ a' = { tmps := #[.slice vo L.length cv, undef, .pointer (some ⟨w.heap.size, 0, none⟩), .pointer (some ⟨w.heap.size + 1, 0, none⟩), .pointer (some ⟨B1, 0, none⟩), .pointer (some ⟨B2, 0, none⟩), .slice vo L.length cv, .func (.func 126) #[] #[.pointer (some ⟨Bs, 0, none⟩)], pt (pAt L x).1 (pAt L x).2, pt (pAt L (x + 1)).1 (pAt L (x + 1)).2, undef, undef, undef, undef, undef, undef], defers := [] })
    (fun x a' _ X Y row hs hg hr => by obtain ⟨B1, B2, e1, e2, e3⟩ := hs; exact ⟨B1, B2, e1, ⟨blk_kept e2.1 hg (fun r e => (hr r e).2), blk_kept e2.2 hg (fun r e => (hr r e).2)⟩, e3⟩)
    ?assign ?body ?done ?stop
  case assign =>
    rintro l pre x W K ⟨⟨⟨hq, bI⟩, bR⟩, hB1, hS1⟩ hK
    gi_wp2
    have g : Gr W ((W.alloc (.cells #[.int .i32 (pAt L x).1, .int .i32 (pAt L x).2] 28)).alloc (.cells #[.int .i32 (pAt L (x + 1)).1, .int .i32 (pAt L (x + 1)).2] 28)) := ((Gr.refl _).alloc _).alloc _
    refine hK _ _ (g.from _) (Ke.gr (fun b hb => Nat.lt_of_lt_of_le (hps b hb) hS1) g) ⟨⟨⟨hq, (bI.alloc _).alloc _⟩, (bR.alloc _).alloc _⟩, hB1.trans (g.below.mono hB1.size), Nat.le_trans hS1 g.size⟩
      ⟨W.heap.size, W.heap.size + 1, ⟨hS1, by omega⟩, ⟨(PtB.new W _).alloc _, by have := PtB.new (W.alloc (.cells #[.int .i32 (pAt L x).1, .int .i32 (pAt L x).2] 28)) (pAt L (x + 1)); rwa [World.size_alloc] at this⟩, rfl⟩
  case body =>
    rintro l pre x a' W hl ⟨r, hr⟩ ⟨⟨⟨hq, bI⟩, bR⟩, hB1, hS1⟩ ⟨B1, B2, ⟨hB1', hB2'⟩, ⟨q1, q2⟩, rfl⟩ hlt
    have cI := bI.cell
    have fI := bI.frozen
    have cR := bR.cell
    have fR := bR.frozen
    have c10 := q1.c0
    have c11 := q1.c1
    have c20 := q2.c0
    have c21 := q2.c1
    have hkp : ¬ (w.heap.size + 2 ≤ w.heap.size + 1 ∧ w.heap.size + 1 < w'.heap.size) := by omega
    by_cases hv : pAt L x = pAt L (x + 1)
    · have hsv : samB L x = true := by unfold samB; simpa using hv
      rw [← hv] at c20 c21
      gi_wp2
      exact ⟨(KeepsOthers.setCell _ _ _).from _, ⟨⟨rfl, pre, x, rfl, hq, hsv⟩, by have := bR.set (.int .i64 (pre.length : Int)); simpa using this⟩, hB1.setCell (p := ⟨w.heap.size, 0, none⟩) (by simp) _⟩
    · have hsv : samB L x = false := by unfold samB; simpa using hv
      have fin : ∀ W', W' = W.setCell ⟨w.heap.size + 1, 0, none⟩ (.int .i64 ((pre ++ [x]).length : Int)) → (KeepsFrom w'.heap.size W W' ∧ Ke (fun b => w.heap.size + 2 ≤ b ∧ b < w'.heap.size) W W' ∧ (((∀ y ∈ pre ++ [x], samB L y = false) ∧ Boxed W' (w.heap.size + 1) 3 (.int .i64 ((pre ++ [x]).length : Int))) ∧ Boxed W' w.heap.size 3 (.int .i64 0)) ∧ (RowKit.Below w.heap.size w W' ∧ w'.heap.size ≤ W'.heap.size)) := by
        rintro W' rfl
        exact ⟨(KeepsOthers.setCell _ _ _).from _, ⟨Kp.set (a := ⟨w.heap.size + 1, 0, none⟩) hkp _, by simp⟩, ⟨⟨fun y hy => (List.mem_append.1 hy).elim (hq y) (fun e => by simp at e; subst e; exact hsv), bI.set _⟩, bR.other (by omega) _⟩, hB1.setCell (p := ⟨w.heap.size + 1, 0, none⟩) (by simp) _, by simpa using hS1⟩
      by_cases hx : (pAt L x).1 = (pAt L (x + 1)).1
      · have hy : ¬ (pAt L x).2 = (pAt L (x + 1)).2 := fun h => hv (Prod.ext hx h)
        have hy' : ((pAt L x).2 == (pAt L (x + 1)).2) = false := by simpa using hy
        rw [← hx] at c20
        clear hx hq hv
        generalize (pAt L x).1 = X at *
        generalize (pAt L x).2 = Y at *
        generalize (pAt L (x + 1)).2 = Y' at *
        gi_wp2
        exact fin _ (by simp)
      · have hx' : ((pAt L x).1 == (pAt L (x + 1)).1) = false := by simpa using hx
        clear hq hv
        generalize (pAt L x).1 = X at *
        generalize (pAt L x).2 = Y at *
        generalize (pAt L (x + 1)).1 = X' at *
        generalize (pAt L (x + 1)).2 = Y' at *
        gi_wp2
        exact fin _ (by simp)
  case done =>
    rintro D zs W hD rfl ⟨⟨⟨hq, bI⟩, bR⟩, hB1, hS1⟩ hK
    have cR := bR.cell
    have fR := bR.frozen
    gi_wp2
    have hK' := (KeepsOthers.setCell W ⟨w.heap.size, 0, none⟩ (.int .i64 (-1))).same D _ hK rfl
    refine ⟨by simp, .inl ⟨_, _, rfl, run_takeDeferred hK', ?_⟩⟩
    have hc5 := cell_kept (bR.set (.int .i64 (-1))).cell (grownBy_putObj' _ D (.deferred none)) (fun r e => by cases e; exact ⟨_, hK', rfl⟩)
    refine ⟨.int .i64 (-1), ?_, ?_, (hB1.setCell (p := ⟨w.heap.size, 0, none⟩) (by simp) _).trans (belowK_b (w := w) (Nat.le_refl _) _ D _ _ (by omega) hK' rfl rfl)⟩
    · simp [results, Tryz.f111, go_sem, hc5]
    · rw [fst_none (fun i hi => hq i (List.mem_range.2 hi))]
  case stop =>
    rintro D c pre W hD ⟨k, hk, rfl⟩ ⟨⟨⟨rfl, q, x, hqx, hq, hx⟩, bR⟩, hB1⟩ hK
    gi_wp2
    refine ⟨by simp, .inl ⟨_, _, rfl, run_takeDeferred hK, ?_⟩⟩
    have hc5 := cell_kept bR.cell (grownBy_putObj' _ D (.deferred none)) (fun r e => by cases e; exact ⟨_, hK, rfl⟩)
    refine ⟨.int .i64 (((List.range k).length : Int) - 1), ?_, ?_, hB1.trans (belowK_b (w := w) (Nat.le_refl _) W D _ _ (by omega) hK rfl rfl)⟩
    · simp [results, Tryz.f111, go_sem, hc5]
    · obtain ⟨k', rfl⟩ : ∃ k', k = k' + 1 := by
        cases k with
        | zero => simp at hqx
        | succ k' => exact ⟨k', rfl⟩
      rw [List.range_succ] at hqx
      obtain ⟨rfl, h2⟩ := List.append_inj' hqx rfl
      simp only [List.cons.injEq, and_true] at h2
      subst h2
      rw [fst_some (k := k') (by omega) (fun i hi => hq i (List.mem_range.2 hi)) hx]
      simp
end
end Go.Proofs.YtgcofpfjdplopaaGreat
