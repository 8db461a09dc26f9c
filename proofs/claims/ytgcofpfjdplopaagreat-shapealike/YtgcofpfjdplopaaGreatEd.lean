/- ring's Edges: the iterator over a list of its own; next, Clone. -/
import Derived.Test.YtgcofpfjdplopaaGreatRf
import Derived.Test.YtgcofpfjdplopaaGreatHd
import Derived.Test.YtgcofpfjdplopaaGreatLst2J
namespace Go.Proofs.YtgcofpfjdplopaaGreat
section
open Go.RowKit Go.Shelf Go.Sort
attribute [local go_sem] Oper.semAt_some wide_fn
attribute [local simp] wide_fn

abbrev eAts (L : List (Int × Int)) (x : Nat) : Array Value := #[pt (pAt L x).1 (pAt L x).2, pt (pAt L (x + 1)).1 (pAt L (x + 1)).2]
/-- What a round keeps: the blocks of p, and no block is lost. -/
def Ke (p : Nat → Prop) (W W' : World) : Prop := Kp p W W' ∧ W.heap.size ≤ W'.heap.size
theorem Ke.t {p : Nat → Prop} {A B C : World} (h : Ke p A B) (k : Ke p B C) : Ke p A C := ⟨h.1.t k.1, Nat.le_trans h.2 k.2⟩
theorem Ke.b {p : Nat → Prop} {w : World} (hp : ∀ b, p b → b < w.heap.size) (W : World) (l : Nat) (o o' : Obj) (hl : w.heap.size ≤ l) (h : W.heap[l]? = some o) (h1 : o.isCells = false) (h2 : o.isWalk = false) : Ke p W (W.putObj l o') :=
  ⟨Kp.b hp W l o o' hl h h1 h2, (grownBy_putObj' W l o').size⟩
theorem Ke.gr {p : Nat → Prop} {W W' : World} (hp : ∀ b, p b → b < W.heap.size) (h : Gr W W') : Ke p W W' := ⟨Kp.gr hp h, h.size⟩

set_option maxRecDepth 100000 in
set_option maxHeartbeats 2000000 in
theorem next_any (ao : Option Addr) (cap n : Nat) (hn : n ≤ 17592186043904) (i : Nat) (hi : i < n) (w : World) :
    Calls Tryz.prog 112 #[.slice ao n cap, .int .i64 i] w fun e w' => e = .returned (.int .i64 (((i + 1) % n : Nat) : Int)) ∧ w' = w := by
  obtain ⟨m, hm⟩ : ∃ m, m = (i + 1) % n := ⟨_, rfl⟩
  have em : ((i : Int) + 1) % (n : Int) = (m : Int) := by rw [hm]; push_cast; rfl
  rw [← hm]
  have hne : ¬ n = 0 := by omega
  clear hm
  go_enter Tryz.func112, Tryz.ntmps112
  go_wp2
  go_ret
  exact ⟨congrArg (fun z => Ending.returned (.int .i64 z)) em, rfl⟩

theorem run_eqnil (ao : Option Addr) (l c : Nat) (w : World) : (binOp .eql 23 (.slice ao l c) (.slice none 0 0)).run Tryz.prog w = .ok (.bool ao.isNone) w := by
  simp [binOp, run_equal_slice_nil w 23 28 ao l c Tryz.underlying23]
set_option maxRecDepth 100000 in
set_option maxHeartbeats 4000000 in
theorem clone_any (vo : Option Addr) (cv : Nat) (l : List (Int × Int)) (w : World) (hl : l.length ≤ 17592186043904) (hn : vo = none → l.length = 0 ∧ cv = 0) (hP : Pts w vo l) :
    Calls Tryz.prog 92 #[.slice vo l.length cv] w fun e w' => ∃ sv, e = .returned sv ∧ w'.ownsRow w.heap.size 28 2 sv l.length (flat l) ∧ RowKit.Below w.heap.size w w' := by
  obtain ⟨i0, hi, hz0, hz1, hz2⟩ := info_parts Tryz.info28b
  have HP : Hid (Pts w vo l) := hP
  clear hP
  cases vo with
  | none =>
    obtain ⟨h0, rfl⟩ := hn rfl
    have hnil : l = [] := List.eq_nil_of_length_eq_zero h0
    subst hnil
    clear HP hn h0
    have hE := run_eqnil none 0 0
    go_enter Tryz.func92, Tryz.ntmps92
    go_wp2
    go_ret
    exact ⟨_, rfl, World.ownsRow_nil _ _ _ _, Below.refl _ _⟩
  | some a =>
    have fl := flat_len l
    clear hn
    have hP1 : ∀ j u, (flat l)[j]? = some u → (w.alloc (.cells #[] 28)).cell? (a.add j) = some u := fun j u h => below_cell (Pts.cellsA HP.out j u h) ((Gr.refl _).alloc _).below
    have hE := run_eqnil (some a) l.length cv
    go_enter Tryz.func92, Tryz.ntmps92
    go_wp2_with (at_builtin; refine wpList_append_own _ rfl (.tmp 5) (.tmp 6) 23 rfl w.heap.size 28 i0 (.agg #[.int .i32 0, .int .i32 0]) 2 8 Tryz.underlying23 hi hz0 hz1 hz2 rfl (by decide) (.slice (some ⟨w.heap.size, 0, none⟩) 0 0) 0 [] rfl (World.ownsRow_made w #[] 0 (Nat.le_refl _) (Nat.zero_le _) rfl) a l.length cv (flat l) rfl fl hP1 (flat_cell l) (by unfold maxLen; omega) (by omega) (by simp) ?_; intro sv w1 hown hgrow _)
    have hg : (w.alloc (.cells #[] 28)).grownBy w1 (some w.heap.size) := hgrow
    have hb1 : RowKit.Below w.heap.size w w1 := ((Below.refl _ _).alloc (Nat.le_refl _) _).grown hg (by simp) (fun k hk => by cases hk; exact Nat.le_refl _)
    go_ret
    exact ⟨_, rfl, by rw [Nat.zero_add, List.nil_append] at hown; exact hown, hb1⟩

theorem own_in {w w' : World} {n : Nat} {sv : Value} {L : List (Int × Int)} (h : w'.ownsRow w.heap.size 28 2 sv n (flat L)) : ∃ ro rc, sv = .slice ro n rc ∧ L.length = n ∧ PtsIn (fun b => w.heap.size ≤ b ∧ b < w'.heap.size) w' ro L := by
  have hl : L.length = n := by have := h.1; rw [flat_len] at this; omega
  rcases h.2 with ⟨rfl, hn⟩ | ⟨g, cap, cur, rfl, hg, hc, _⟩
  · refine ⟨none, 0, by rw [hn], hl, .inl (List.eq_nil_of_length_eq_zero (by omega))⟩
  · refine ⟨_, cap, rfl, hl, PtsIn.of (Pts.of_own (base := w.heap.size) (cap := cap) (by rw [hl]; exact h)) (fun b off e => ?_)⟩
    cases e
    exact ⟨hg, (Array.getElem?_eq_some_iff.1 hc).1⟩
theorem PtsIn.weak {p q : Nat → Prop} {W : World} {ao : Option Addr} {l : List (Int × Int)} (h : PtsIn p W ao l) (hq : ∀ b, p b → q b) : PtsIn q W ao l := by
  rcases h with h | ⟨b, off, hb, e, hc⟩
  · exact .inl h
  · exact .inr ⟨b, off, hq b hb, e, hc⟩

set_option maxRecDepth 100000 in
set_option maxHeartbeats 2000000 in
theorem edges_any (vo : Option Addr) (cv : Nat) (L : List (Int × Int)) (w : World) (hl : L.length ≤ 17592186043904) (hn : vo = none → L.length = 0 ∧ cv = 0) (hP : Pts w vo L) :
    Calls Tryz.prog 121 #[.slice vo L.length cv] w fun e w' => ∃ Bs ro rc, e = .returned (.func (.func 126) #[] #[.pointer (some ⟨Bs, 0, none⟩)]) ∧ w.heap.size ≤ Bs ∧ Bs < w'.heap.size ∧ w'.cell? ⟨Bs, 0, none⟩ = some (.slice ro L.length rc) ∧ PtsIn (fun b => w.heap.size ≤ b ∧ b < w'.heap.size) w' ro L ∧ Below w.heap.size w w' := by
  have C : Hid (Calls Tryz.prog 92 #[.slice vo L.length cv] w fun e w' => ∃ ro rc, e = .returned (.slice ro L.length rc) ∧ PtsIn (fun b => w.heap.size ≤ b ∧ b < w'.heap.size) w' ro L ∧ RowKit.Below w.heap.size w w') := by
    refine (clone_any vo cv L w hl hn hP).mono ?_
    rintro e w' ⟨sv, rfl, h1, h2⟩
    obtain ⟨ro, rc, rfl, _, h3⟩ := own_in h1
    exact ⟨ro, rc, rfl, h3, h2⟩
  clear hP hn
  go_enter Tryz.func121, Tryz.ntmps121
  go_wp2_with (go_at_call 92; refine C.out.mono ?_; rintro e w1 ⟨ro, rc, rfl, h1, h2⟩)
  go_ret
  have g : Gr w1 (w1.alloc (.cells #[.slice ro L.length rc] 23)) := (Gr.refl _).alloc _
  have b := Boxed.new w1 23 (.slice ro L.length rc)
  exact ⟨w1.heap.size, ro, rc, rfl, h2.size, by simp, b.cell, (h1.keep (Kp.gr (fun b hb => hb.2) g)).weak (fun b hb => ⟨hb.1, by have := g.size; omega⟩), h2.trans (g.below.mono h2.size)⟩

set_option maxRecDepth 100000 in
set_option maxHeartbeats 4000000 in
theorem edges1_in (n : Nat) (l Bs : Nat) (p : Nat → Prop) (hBp : p Bs) (ao : Option Addr) (cap : Nat) (L : List (Int × Int)) (hlen : L.length ≤ 17592186043904) (J Jx : List Nat → World → Prop)
    (W : World) (hJ : AbidesFrom W.heap.size J) (hps : ∀ b, p b → b < W.heap.size)
    (hY : ∀ pre x W, J pre W → pre.length < L.length → YieldAt Fence.wide (n - 1) Tryz.prog l (eAts L x) W fun e W' =>
      (e = .returned (.bool true) ∧ J (pre ++ [x]) W' ∧ Kp p W W' ∧ W.heap.size ≤ W'.heap.size) ∨ (e = .returned (.bool false) ∧ Jx (pre ++ [x]) W'))
    (hBs : W.cell? ⟨Bs, 0, none⟩ = some (.slice ao L.length cap)) (hP : PtsIn p W ao L) (h0 : J [] W) :
    CallsIn Fence.wide n Tryz.prog 126 #[.func (.yield l) #[] #[], .pointer (some ⟨Bs, 0, none⟩)] W fun e W' => (∃ v, e = .returned v) ∧
      ((∃ ys, ys = List.range L.length ∧ J ys W') ∨ (∃ pre, (∃ k, k ≤ L.length ∧ pre = List.range k) ∧ Jx pre W')) := by
  refine callsIn_of_wp Tryz.func126 rfl trivial ?_ rfl
  simp only [Tryz.ntmps126, List.size_toArray, List.length_cons, List.length_nil, Nat.reduceAdd, Nat.reduceSub, Array.replicate_succ, Array.replicate_zero, List.push_toArray, List.append_toArray, List.nil_append, List.cons_append]
  gi_wp2
  gi_loopw [3, 4, 7] (fun _ _ i wr => ∃ k : Nat, k ≤ L.length ∧ i = .int .i64 k ∧ J (List.range k) wr ∧ Kp p W wr ∧ W.heap.size ≤ wr.heap.size)
    (fun _ _ i _ => L.length - (intOf i).toNat)
  case atStart => exact ⟨0, Nat.zero_le _, rfl, h0, Kp.refl _, Nat.le_refl _⟩
  case round =>
    obtain ⟨k, hk, rfl, hJs, hnx, hsz⟩ := hrel
    have hBs1 : wr.cell? ⟨Bs, 0, none⟩ = some (.slice ao L.length cap) := (hnx.cell hBp).trans hBs
    by_cases hlt : k < L.length
    · rcases hP.keep hnx with rfl | ⟨b, off, hb, rfl, hc⟩
      · simp at hlt
      · obtain ⟨p0, p1⟩ := hc k hlt
        obtain ⟨m, hm⟩ : ∃ m, m = (k + 1) % L.length := ⟨_, rfl⟩
        have hml : m < L.length := by rw [hm]; exact Nat.mod_lt _ (by omega)
        obtain ⟨q0, q1⟩ := hc m hml
        have ea : pAt L k = L.getD k (0, 0) := pAt_lt hlt
        have eb : pAt L (k + 1) = L.getD m (0, 0) := by unfold pAt; rw [hm]
        have NX : Hid (∀ w, Calls Tryz.prog 112 #[.slice (some ⟨b, off, none⟩) L.length cap, .int .i64 k] w fun e w' => e = .returned (.int .i64 (m : Int)) ∧ w' = w) := fun w => by rw [hm]; exact next_any _ _ _ hlen k hlt w
        clear hc hm
        generalize L.getD k (0, 0) = A at *
        generalize L.getD m (0, 0) = B at *
        gi_wp2
        generalize hw1 : wr.alloc (.cells #[.int .i32 A.1, .int .i32 A.2] 28) = w1 at *
        have g1 : Gr wr w1 := by rw [← hw1]; exact (Gr.refl _).alloc _
        have hx : PtB w1 wr.heap.size A := by rw [← hw1]; exact PtB.new wr A
        have a0 := hx.c0
        have a1 := hx.c1
        have hBs2 := below_cell hBs1 g1.below
        have q0' := below_cell q0 g1.below
        have q1' := below_cell q1 g1.below
        clear hBs hBs1 q0 q1 p0 p1 hw1
        have NX' : ∀ nn, CallsIn Fence.wide (n - 1) Tryz.prog 112 #[.slice (some ⟨b, off, none⟩) L.length cap, .int .i64 k] (w1.drewN nn) fun e w'' => e = .returned (.int .i64 (m : Int)) ∧ ∃ n', w'' = w1.drewN n' := fun nn => callsIn_wide.2 ((NX.out _).mono fun e w' h => ⟨h.1, nn, h.2⟩)
        refine region_head_lit 8 (by kernel_rfl) (by kernel_rfl) (by simp) (by kernel_rfl) ?_
        simp only [List.take_succ_cons, List.take_zero, List.drop_succ_cons, List.drop_zero]
        repeat (gi_big_quiet_step (first | exact NX' _ | exact ⟨fun h => (by cases h), NX' _⟩))
        refine wpQuietIn_nil ?_
        intro _ hw'
        obtain ⟨nq, hw''⟩ := hw'
        subst hw''
        clear NX NX'
        have g2 : Gr wr (w1.drewN nq) := g1.drewN nq
        have hJ2 : J (List.range k) (w1.drewN nq) := hJ _ _ _ none hJs g2.grownBy (fun r e => by cases e)
        obtain ⟨fn, tmps, assign, body, hy, hR⟩ := hY _ k (w1.drewN nq) hJ2 (by simpa using hlt)
        rw [eAts, ea, eb] at hy
        gi_wp2
        refine ⟨fun h => (by cases h), hR.mono ?_⟩
        have hk2 : Kp p W (w1.drewN nq) := hnx.t (Kp.gr (fun b hb => Nat.lt_of_lt_of_le (hps b hb) hsz) g2)
        have hs2 := g2.size
        generalize w1.drewN nq = w2 at *
        rintro e W3 (⟨rfl, hJ3, hk3, hs3⟩ | ⟨rfl, hJx3⟩)
        · gi_wp2
          go_roundw
          case rel => exact ⟨k + 1, by omega, by simp, by rw [List.range_succ]; exact hJ3, hk2.t hk3, by omega⟩
          case measure => simp [intOf]; omega
        · gi_wp2
          refine bodyPost_ret (results_none rfl _ _ _) rfl ?_
          exact ⟨⟨_, rfl⟩, .inr ⟨_, ⟨k + 1, by omega, List.range_succ.symm⟩, hJx3⟩⟩
    · obtain rfl : k = L.length := by omega
      gi_wp2
      go_end0
      exact ⟨⟨_, rfl⟩, .inl ⟨_, rfl, hJs⟩⟩

theorem edges_stops (n : Nat) (Bs : Nat) (p : Nat → Prop) (hBp : p Bs) (ao : Option Addr) (cap : Nat) (L : List (Int × Int)) (hlen : L.length ≤ 17592186043904) (w : World) (hps : ∀ b, p b → b < w.heap.size)
    (hBs : w.cell? ⟨Bs, 0, none⟩ = some (.slice ao L.length cap)) (hP : PtsIn p w ao L) :
    SeqStopsK Fence.wide n Tryz.prog 126 #[.pointer (some ⟨Bs, 0, none⟩)] (eAts L) (Ke p) (fun ys => ys = List.range L.length) (fun pre => ∃ k, k ≤ L.length ∧ pre = List.range k) L.length w := fun l J Jx W hW hJ _ hY h0 => by
  have hk : Kp p w W := Kp.below hps hW
  exact edges1_in n l Bs p hBp ao cap L hlen J Jx W hJ (fun b hb => Nat.lt_of_lt_of_le (hps b hb) hW.size) hY ((hk.cell hBp).trans hBs) (hP.keep hk) h0
end
end Go.Proofs.YtgcofpfjdplopaaGreat
