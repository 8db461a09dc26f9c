/- What a box meets. inside's sides: the iterator's contract, for every body that keeps the list and its box. -/
import Derived.Test.YtgcofpfjdplopaaGreatCo9J
import Derived.Test.YtgcofpfjdplopaaGreatSdm9
import Derived.Lib.QuietBelow
import Derived.Test.YtgcofpfjdplopaaGreatRf
import Derived.Test.YtgcofpfjdplopaaGreatHd
namespace Go.Proofs.YtgcofpfjdplopaaGreat
section
set_option linter.unusedSimpArgs false
open Go.RowKit Go.Shelf Go.Sort

def crnL (a b : Int × Int) : List (Int × Int) := [a, (b.1, a.2), b, (a.1, b.2)]
def rectM (a b p q : Int × Int) : Bool := (latP p && latP q) && (hasB a.1 a.2 b.1 b.2 p.1 p.2 || sdB (crnL a b) p q)
theorem side_any (vo : Option Addr) (cv : Nat) (L : List (Int × Int)) (hlen : L.length ≤ 17592186043904) (hno : vo = none → L.length = 0 ∧ cv = 0) (p q : Int × Int) (w : World) (hP : Pts w vo L) :
    Calls Tryz.prog 192 #[.slice vo L.length cv, pt p.1 p.2, pt q.1 q.2] w fun e w' => e = .returned (.bool (sdB L p q)) ∧ RowKit.Below w.heap.size w w' :=
  callsIn_wide.1 (side_in 9 (Nat.le_refl _) vo cv L hlen hno p q w hP)
theorem two_below9 {w : World} {b t : Nat} {x y : Value} (h : Bl w b t #[x, y]) : (∀ w', Below w.heap.size w w' → w'.cell? ⟨b, 0, none⟩ = some x) ∧ (∀ w', Below w.heap.size w w' → w'.cell? ⟨b, 1, none⟩ = some y) :=
  ⟨fun _ g => (h.below g).cell rfl, fun _ g => (h.below g).cell rfl⟩

set_option maxRecDepth 20000 in
set_option maxHeartbeats 8000000 in
theorem rect_meets (D : Nat) (a b : Int × Int) (p q : Int × Int) (w : World) (hD : Bl w D 131 #[.int .i32 a.1, .int .i32 a.2, .int .i32 b.1, .int .i32 b.2]) :
    Calls Tryz.prog 201 #[.pointer (some ⟨D, 0, none⟩), pt p.1 p.2, pt q.1 q.2] w fun e w' => e = .returned (.bool (rectM a b p q)) ∧ Below w.heap.size w w' := by
  have E : Hid (rectM a b p q = ((latP p && latP q) && (hasB a.1 a.2 b.1 b.2 p.1 p.2 || sdB (crnL a b) p q))) := (by exact rfl)
  obtain ⟨W, hW⟩ : ∃ W, W = (w.alloc (.cells #[.int .i32 p.1, .int .i32 p.2] 28)).alloc (.cells #[.int .i32 q.1, .int .i32 q.2] 28) := ⟨_, rfl⟩
  have g : Gr w W := by rw [hW]; exact ((Gr.refl _).alloc _).alloc _
  have kP : Bl W w.heap.size 28 #[.int .i32 p.1, .int .i32 p.2] := by rw [hW]; exact (Bl.new w 28 _).below ((Gr.refl _).alloc _).below
  have kQ : Bl W (w.heap.size + 1) 28 #[.int .i32 q.1, .int .i32 q.2] := by rw [hW]; have := Bl.new (w.alloc (.cells #[.int .i32 p.1, .int .i32 p.2] 28)) 28 #[.int .i32 q.1, .int .i32 q.2]; rwa [World.size_alloc] at this
  have kD := hD.below g.below
  have OL : Hid (∀ W', Below W.heap.size W W' → Calls Tryz.prog 190 #[pt p.1 p.2, pt q.1 q.2] W' fun e w' => e = .returned (.bool (latP p && latP q)) ∧ Below W'.heap.size W' w') := fun W' _ => (onLat_any p q W').mono (fun e w' h => ⟨h.1, h.2.below⟩)
  have OC : Hid (∀ W', Below W.heap.size W W' → Calls Tryz.prog 200 #[.pointer (some ⟨D, 0, none⟩), pt p.1 p.2] W' fun e w' => e = .returned (.bool (hasB a.1 a.2 b.1 b.2 p.1 p.2)) ∧ Below W'.heap.size W' w') := fun W' h' => (rect_covers D a b p W' (kD.below h')).mono (fun e w' h => ⟨h.1, h.2.below⟩)
  have OK : Hid (∀ W', Below W.heap.size W W' → Calls Tryz.prog 202 #[.pointer (some ⟨D, 0, none⟩)] W' fun e w' => ∃ B, e = .returned (.slice (some ⟨B, 0, none⟩) 4 4) ∧ Pts w' (some ⟨B, 0, none⟩) (crnL a b) ∧ Below W'.heap.size W' w') := fun W' h' => (corners_any D a b W' (kD.below h')).mono (fun e w' ⟨B, h1, h2, h3⟩ => ⟨B, h1, h2, h3.below⟩)
  have OS : Hid (∀ B W', Pts W' (some ⟨B, 0, none⟩) (crnL a b) → Calls Tryz.prog 192 #[.slice (some ⟨B, 0, none⟩) 4 4, pt p.1 p.2, pt q.1 q.2] W' fun e w' => e = .returned (.bool (sdB (crnL a b) p q)) ∧ Below W'.heap.size W' w') := fun B W' h' => side_any (some ⟨B, 0, none⟩) 4 (crnL a b) (by simp [crnL]) (by simp) p q W' h'
  obtain ⟨p0, p1⟩ := two_below9 kP
  obtain ⟨q0, q1⟩ := two_below9 kQ
  clear kP kQ kD hD
  have gb : Hid (Below w.heap.size w W) := g.below
  have gs : Hid (w.heap.size ≤ W.heap.size) := g.size
  clear g
  generalize sdB (crnL a b) p q = S at *
  generalize hasB a.1 a.2 b.1 b.2 p.1 p.2 = H at *
  generalize rectM a b p q = R at *
  generalize (latP p && latP q) = LL at *
  have QL : Hid (∀ d os, Calls Tryz.prog 190 #[pt p.1 p.2, pt q.1 q.2] (grow (redrawn W d) os) fun e w' => e = .returned (.bool LL) ∧ ∃ p : Regrown, w' = grow (redrawn W p.d) p.os) := fun d os => Calls.regrown_of (OL.out _ (below_regrown W d os))
  have QC : Hid (∀ d os, Calls Tryz.prog 200 #[.pointer (some ⟨D, 0, none⟩), pt p.1 p.2] (grow (redrawn W d) os) fun e w' => e = .returned (.bool H) ∧ ∃ p : Regrown, w' = grow (redrawn W p.d) p.os) := fun d os => Calls.regrown_of (OC.out _ (below_regrown W d os))
  have r0 := fun d os => cell_regrown (p0 W (Below.refl _ _)) d os
  have r1 := fun d os => cell_regrown (p1 W (Below.refl _ _)) d os
  have r2 := fun d os => cell_regrown (q0 W (Below.refl _ _)) d os
  have r3 := fun d os => cell_regrown (q1 W (Below.refl _ _)) d os
  cases LL with
  | false =>
    have hR : R = false := E.out
    subst hR
    clear p0 p1 q0 q1 OL OC OK OS E
    go_enter Tryz.func201, Tryz.ntmps201
    go_upto_region 1 with fail
    rw [← hW]
    clear hW
    refine wp_region_quiet_below (by kernel_rfl) (by kernel_rfl) ?_
    repeat (go_big_quiet_step (first | exact QL.out _ _ | exact QC.out _ _))
    refine wpQuiet_nil ?_
    intro _ hw'
    obtain ⟨⟨dq, osq⟩, hw''⟩ := hw'
    subst hw''
    have hH := below_regrown W dq osq
    generalize grow (redrawn W dq) osq = w2 at *
    go_wp2
    go_ret
    exact ⟨rfl, gb.out.trans (hH.mono gs.out)⟩
  | true =>
    cases H with
    | true =>
      have hR : R = true := E.out
      subst hR
      clear p0 p1 q0 q1 OL OC OK OS E
      go_enter Tryz.func201, Tryz.ntmps201
      go_upto_region 1 with fail
      rw [← hW]
      clear hW
      refine wp_region_quiet_below (by kernel_rfl) (by kernel_rfl) ?_
      repeat (go_big_quiet_step (first | exact QL.out _ _ | exact QC.out _ _))
      refine wpQuiet_nil ?_
      intro _ hw'
      obtain ⟨⟨dq, osq⟩, hw''⟩ := hw'
      subst hw''
      have hH := below_regrown W dq osq
      generalize grow (redrawn W dq) osq = w2 at *
      go_wp2
      go_ret
      exact ⟨rfl, gb.out.trans (hH.mono gs.out)⟩
    | false =>
      have hR : R = S := E.out
      subst hR
      clear r0 r1 r2 r3 QL QC E
      go_enter Tryz.func201, Tryz.ntmps201
      go_upto_region 1 with fail
      rw [← hW]
      clear hW
      go_region_held3 (Below W.heap.size W)
        (first
          | exact (Below.refl _ _).drew
          | assumption
          | exact Below.trans (by assumption) (Below.mono (by assumption) (Below.size (by assumption))))
        (first
          | (go_at_call 190; refine (OL.out _ (by assumption)).mono ?_; rintro e w3 ⟨rfl, g3⟩)
          | (go_at_call 200; refine (OC.out _ (by assumption)).mono ?_; rintro e w4 ⟨rfl, g4⟩)
          | (go_at_call 202; refine (OK.out _ (by assumption)).mono ?_; rintro e w5 ⟨B, rfl, hP5, g5⟩)
          | (go_at_call 192; refine (OS.out _ _ hP5).mono ?_; rintro e w6 ⟨rfl, g6⟩))
      rename_i hH
      go_wp2
      go_ret
      exact ⟨rfl, gb.out.trans (hH.mono gs.out)⟩
end
section
open Go.RowKit Go.Shelf
attribute [local go_sem] Oper.semAt_some

abbrev pAts (L : List (Int × Int)) (x : Nat) : Array Value := #[pt (pAt L x).1 (pAt L x).2, pt (pAt L (x + 1)).1 (pAt L (x + 1)).2]

set_option maxRecDepth 100000 in
set_option maxHeartbeats 4000000 in
theorem sides1_in (n : Nat) (l Bs : Nat) (p : Nat → Prop) (hBp : p Bs) (ao : Option Addr) (cap : Nat) (L : List (Int × Int)) (hlen : L.length ≤ 17592186043904) (J Jx : List Nat → World → Prop)
    (W : World) (hJ : AbidesFrom W.heap.size J) (hps : ∀ b, p b → b < W.heap.size)
    (hY : ∀ pre x W, J pre W → pre.length < L.length → YieldAt Fence.wide (n - 1) Tryz.prog l (pAts L x) W fun e W' =>
      (e = .returned (.bool true) ∧ J (pre ++ [x]) W' ∧ Kp p W W' ∧ W.heap.size ≤ W'.heap.size) ∨ (e = .returned (.bool false) ∧ Jx (pre ++ [x]) W'))
    (hBs : W.cell? ⟨Bs, 0, none⟩ = some (.slice ao L.length cap)) (hP : PtsIn p W ao L) (h0 : J [] W) :
    CallsIn Fence.wide n Tryz.prog 146 #[.func (.yield l) #[] #[], .pointer (some ⟨Bs, 0, none⟩)] W fun e W' => (∃ v, e = .returned v) ∧
      ((∃ ys, ys = List.range L.length ∧ J ys W') ∨ (∃ pre, (∃ k, k ≤ L.length ∧ pre = List.range k) ∧ Jx pre W')) := by
  refine callsIn_of_wp Tryz.func146 rfl trivial ?_ rfl
  simp only [Tryz.ntmps146, List.size_toArray, List.length_cons, List.length_nil, Nat.reduceAdd, Nat.reduceSub, Array.replicate_succ, Array.replicate_zero, List.push_toArray, List.append_toArray, List.nil_append, List.cons_append]
  gi_wp2
  gi_loopw [3, 4, 7] (fun _ _ i wr => ∃ k : Nat, k ≤ L.length ∧ i = .int .i64 k ∧ J (List.range k) wr ∧ Kp p W wr ∧ W.heap.size ≤ wr.heap.size)
    (fun _ _ i _ => L.length - (intOf i).toNat)
  case atStart => exact ⟨0, Nat.zero_le _, rfl, h0, Kp.refl _, Nat.le_refl _⟩
  case round =>
    obtain ⟨k, hk, rfl, hJs, hnx, hsz⟩ := hrel
    have hBs1 : wr.cell? ⟨Bs, 0, none⟩ = some (.slice ao L.length cap) := (hnx.cell hBp).trans hBs
    by_cases hlt : k < L.length
    · rcases hP.keep hnx with rfl | ⟨b, off, hb, rfl, hc⟩
      · simp at hlt
      · obtain ⟨p0, p1⟩ := hc k hlt
        obtain ⟨m, hm⟩ : ∃ m, m = (k + 1) % L.length := ⟨_, rfl⟩
        have hml : m < L.length := by rw [hm]; exact Nat.mod_lt _ (by omega)
        obtain ⟨q0, q1⟩ := hc m hml
        have hJ1 : ∀ os, J (List.range k) (wr.alloc os) := fun os => hJ _ _ _ none hJs (World.grownBy_alloc _ _ _) (fun r e => by cases e)
        have ea : pAt L k = L.getD k (0, 0) := pAt_lt hlt
        have eb : pAt L (k + 1) = L.getD m (0, 0) := by unfold pAt; rw [hm]
        clear hc
        generalize L.getD k (0, 0) = A at *
        generalize L.getD m (0, 0) = B at *
        gi_wp2
        generalize hw1 : wr.alloc (.cells #[.int .i32 A.1, .int .i32 A.2] 28) = w1 at *
        have g1 : Gr wr w1 := by rw [← hw1]; exact (Gr.refl _).alloc _
        have hx : PtB w1 wr.heap.size A := by rw [← hw1]; exact PtB.new wr A
        have a0 := hx.c0
        have a1 := hx.c1
        have hBs2 := below_cell hBs1 g1.below
        have q0' := below_cell q0 g1.below
        have q1' := below_cell q1 g1.below
        have em : ((k : Int) + 1) % (L.length : Int) = (m : Int) := by rw [hm]; push_cast; rfl
        clear hBs hBs1 q0 q1 p0 p1 hJ1 hw1 hm
        have hne : ¬ L = [] := by rintro rfl; simp at hlt
        refine region_head_lit 10 (by kernel_rfl) (by kernel_rfl) (by simp) (by kernel_rfl) ?_
        simp only [List.take_succ_cons, List.take_zero, List.drop_succ_cons, List.drop_zero]
        repeat (gi_big_quiet_step (fail))
        refine wpQuietIn_nil ?_
        intro _ hw'
        obtain ⟨nq, hw''⟩ := hw'
        subst hw''
        have g2 : Gr wr (w1.drewN nq) := g1.drewN nq
        have hJ2 : J (List.range k) (w1.drewN nq) := hJ _ _ _ none hJs g2.grownBy (fun r e => by cases e)
        obtain ⟨fn, tmps, assign, body, hy, hR⟩ := hY _ k (w1.drewN nq) hJ2 (by simpa using hlt)
        rw [pAts, ea, eb] at hy
        gi_wp2
        refine ⟨fun h => (by cases h), hR.mono ?_⟩
        have hk2 : Kp p W (w1.drewN nq) := hnx.t (Kp.gr (fun b hb => Nat.lt_of_lt_of_le (hps b hb) hsz) g2)
        have hs2 := g2.size
        generalize w1.drewN nq = w2 at *
        rintro e W3 (⟨rfl, hJ3, hk3, hs3⟩ | ⟨rfl, hJx3⟩)
        · gi_wp2
          go_roundw
          case rel => exact ⟨k + 1, by omega, by simp, by rw [List.range_succ]; exact hJ3, hk2.t hk3, by omega⟩
          case measure => simp [intOf]; omega
        · gi_wp2
          refine bodyPost_ret (results_none rfl _ _ _) rfl ?_
          exact ⟨⟨_, rfl⟩, .inr ⟨_, ⟨k + 1, by omega, List.range_succ.symm⟩, hJx3⟩⟩
    · obtain rfl : k = L.length := by omega
      gi_wp2
      go_end0
      exact ⟨⟨_, rfl⟩, .inl ⟨_, rfl, hJs⟩⟩

set_option maxHeartbeats 1000000 in
theorem sides_in (n : Nat) (ao : Option Addr) (len cap : Nat) (w : World) :
    CallsIn Fence.wide n Tryz.prog 137 #[.slice ao len cap] w fun e w' => e = .returned (.func (.func 146) #[] #[.pointer (some ⟨w.heap.size, 0, none⟩)]) ∧ w' = w.alloc (.cells #[.slice ao len cap] 23) := by
  refine callsIn_of_wp Tryz.func137 rfl trivial ?_ rfl
  simp only [Tryz.ntmps137, List.size_toArray, List.length_cons, List.length_nil, Nat.reduceAdd, Nat.reduceSub, Array.replicate_succ, Array.replicate_zero, List.push_toArray, List.append_toArray, List.nil_append, List.cons_append]
  gi_wp2
  go_ret
  exact ⟨rfl, rfl⟩

/-- What a round keeps: the blocks of p, and no block is lost. -/
def Kq (p : Nat → Prop) (W W' : World) : Prop := Kp p W W' ∧ W.heap.size ≤ W'.heap.size
theorem Kq.t {p : Nat → Prop} {A B C : World} (h : Kq p A B) (k : Kq p B C) : Kq p A C := ⟨h.1.t k.1, Nat.le_trans h.2 k.2⟩
theorem Kq.b {p : Nat → Prop} {w : World} (hp : ∀ b, p b → b < w.heap.size) (W : World) (l : Nat) (o o' : Obj) (hl : w.heap.size ≤ l) (h : W.heap[l]? = some o) (h1 : o.isCells = false) (h2 : o.isWalk = false) : Kq p W (W.putObj l o') :=
  ⟨Kp.b hp W l o o' hl h h1 h2, (grownBy_putObj' W l o').size⟩
theorem Kq.gr {p : Nat → Prop} {W W' : World} (hp : ∀ b, p b → b < W.heap.size) (h : Gr W W') : Kq p W W' := ⟨Kp.gr hp h, h.size⟩

theorem sides_stops (n : Nat) (Bs : Nat) (p : Nat → Prop) (hBp : p Bs) (ao : Option Addr) (cap : Nat) (L : List (Int × Int)) (hlen : L.length ≤ 17592186043904) (w : World) (hps : ∀ b, p b → b < w.heap.size)
    (hBs : w.cell? ⟨Bs, 0, none⟩ = some (.slice ao L.length cap)) (hP : PtsIn p w ao L) :
    SeqStopsK Fence.wide n Tryz.prog 146 #[.pointer (some ⟨Bs, 0, none⟩)] (pAts L) (Kq p) (fun ys => ys = List.range L.length) (fun pre => ∃ k, k ≤ L.length ∧ pre = List.range k) L.length w := fun l J Jx W hW hJ _ hY h0 => by
  have hk : Kp p w W := Kp.below hps hW
  exact sides1_in n l Bs p hBp ao cap L hlen J Jx W hJ (fun b hb => Nat.lt_of_lt_of_le (hps b hb) hW.size) hY ((hk.cell hBp).trans hBs) (hP.keep hk) h0
end
end Go.Proofs.YtgcofpfjdplopaaGreat
