/- All: what is sorted when going over it begins, told one by one. -/
import Derived.Test.YtaapdkjmlplhgaaCm
set_option linter.unusedSimpArgs false
set_option linter.unusedVariables false
namespace Go.Proofs.Ytaapdkjmlplhgaa
open Go.RowKit Go.Sort Go.Shelf
attribute [local go_sem] Oper.semAt_some wide_fn
attribute [local simp] wide_fn

/-- The list L stands at the head of block N. -/
def RowAt (w : World) (N : Nat) (L : List Du) : Prop := ∃ rest, Bk w N 32 (flat L ++ rest)
theorem RowAt.same {w w' : World} {N : Nat} {L : List Du} (h : RowAt w N L) (e : w'.heap[N]? = w.heap[N]?) : RowAt w' N L := by
  obtain ⟨r, h⟩ := h
  exact ⟨r, h.same e⟩
theorem RowAt.lt {w : World} {N : Nat} {L : List Du} (h : RowAt w N L) : N < w.heap.size := by
  obtain ⟨r, h⟩ := h
  exact h.lt
theorem RowAt.gr {w w' : World} {N : Nat} {L : List Du} (h : RowAt w N L) (g : Gr w w') : RowAt w' N L := h.same (g.below.block _ h.lt)
theorem RowAt.cell {w : World} {N : Nat} {L : List Du} (h : RowAt w N L) {i : Nat} (hi : i < L.length) : w.cell? ⟨N, i * 3, none⟩ = some (.int .u32 (L.getD i (0, 0, 0)).1) ∧ w.cell? ⟨N, i * 3 + 1, none⟩ = some (.int .u32 (L.getD i (0, 0, 0)).2.1) ∧ w.cell? ⟨N, i * 3 + 2, none⟩ = some (.int .u32 (L.getD i (0, 0, 0)).2.2) := by
  obtain ⟨r, h⟩ := h
  have key : ∀ j, j < 3 → w.cell? ⟨N, i * 3 + j, none⟩ = (dL (L.getD i (0, 0, 0)))[j]? := fun j hj => by
    have hl := flat_len L
    rw [h.at, List.getElem?_append_left (by omega), flat_at L i j hi hj]
  exact ⟨key 0 (by omega), key 1 (by omega), key 2 (by omega)⟩
def dE (x : Du) : Array Value := #[dV x]
theorem below_grown {W w : World} (h : Below W.heap.size W w) : W.grownBy w none := ⟨h.os, h.tape, h.output, h.size, fun k hk _ => h.block k hk⟩
/-- What sorted answers. -/
def SortedR (W : World) (L : List Du) (e : Ending) (w' : World) : Prop :=
  Below W.heap.size W w' ∧ ((e = .returned (.slice none 0 0) ∧ L = []) ∨ ∃ N cap, e = .returned (.slice (some ⟨N, 0, none⟩) L.length cap) ∧ W.heap.size ≤ N ∧ RowAt w' N L)
theorem take_pre {L : List Du} {k : Nat} (hk : k < L.length) : L.take k ++ [L.getD k (0, 0, 0)] <+: L ∧ L.take (k + 1) = L.take k ++ [L.getD k (0, 0, 0)] := by
  have e : L.take (k + 1) = L.take k ++ [L.getD k (0, 0, 0)] := by
    rw [List.take_add_one]
    simp [List.getD, List.getElem?_eq_getElem hk]
  exact ⟨e ▸ List.take_prefix _ _, e⟩
set_option maxRecDepth 100000 in
set_option maxHeartbeats 4000000 in
theorem all1_in (n : Nat) (hn : 1 ≤ n) (l b : Nat) (v : Value) (L : List Du) (hL : L.length ≤ 4096) (J : (Nat → Prop) → List Du → World → Prop) (Jx : List Du → World → Prop) (p0 p : Nat → Prop) (W : World)
    (hb : Bk W b 23 [v]) (hp : ∀ b, p0 b → p b) (hps : ∀ b, p b → b < W.heap.size) (hJ : Con W.heap.size J)
    (hS : Calls Try.prog 35 #[v] W (SortedR W L))
    (hY : ∀ p pre x W1, (∀ b, p0 b → p b) → (∀ b, p b → b < W1.heap.size) → J p pre W1 → W.heap.size ≤ W1.heap.size → pre ++ [x] <+: L → YieldAt Fence.wide 0 Try.prog l (dE x) W1 (RoundEnds W.heap.size J Jx p (pre ++ [x]) W1))
    (h0 : J p [] W) :
    CallsIn Fence.wide n Try.prog 34 #[.func (.yield l) #[] #[], .pointer (some ⟨b, 0, none⟩)] W fun e W' => (∃ v, e = .returned v) ∧
      ((∃ q, J q L W' ∧ ∀ b, p b → q b) ∨ (∃ pre, pre <+: L ∧ Jx pre W')) := by
  have HY := hid0 hY
  have HS := hid0 hS
  have c0 := hb.one
  clear hY hb hS
  refine callsIn_of_wp Try.func34 rfl trivial ?_ rfl
  simp only [Try.ntmps34, List.size_toArray, List.length_cons, List.length_nil, Nat.reduceAdd, Nat.reduceSub, Array.replicate_succ, Array.replicate_zero, List.push_toArray, List.append_toArray, List.nil_append, List.cons_append]
  gi_wp2_with fail
  refine (callsIn_wide.2 HS.out).mono ?_
  rintro e w1 ⟨g1, (⟨rfl, rfl⟩ | ⟨N, cap, rfl, hN, hR⟩)⟩
  · have hJ1 := hid0 (hJ.own _ _ _ _ none h0 (below_grown g1) (fun r e => by cases e))
    clear c0 h0 HS HY
    gi_wp2
    gi_loopw [8] (fun v wr => v = .int .i64 0 ∧ Hid (J p [] wr)) (fun _ _ => 0)
    case atStart => exact ⟨rfl, hJ1⟩
    case round =>
      obtain ⟨rfl, hj⟩ := hrel
      gi_wp2
      go_end0
      exact ⟨⟨_, rfl⟩, .inl ⟨p, hj.out, fun _ h => h⟩⟩
  · have hJ1 : J (fun k => p k ∨ k = N) [] w1 := hJ.own _ _ _ _ none (hJ.new p [] W N h0 hN) (below_grown g1) (fun r e => by cases e)
    have hps1 : ∀ b, (p b ∨ b = N) → b < w1.heap.size := by
      rintro b (h | rfl)
      · exact Nat.lt_of_lt_of_le (hps b h) g1.size
      · exact hR.lt
    have HJ1 := hid0 hJ1
    have HR := hid0 hR
    have hsz1 := g1.size
    clear c0 h0 HS hJ1 hR g1
    gi_wp2
    gi_loopw [8] (fun v wr => ∃ k : Nat, k ≤ L.length ∧ v = .int .i64 k ∧ Hid (J (fun k => p k ∨ k = N) (L.take k) wr) ∧ Hid (Kp (fun k => p k ∨ k = N) w1 wr) ∧ w1.heap.size ≤ wr.heap.size) (fun v _ => L.length - (intOf v).toNat)
    case atStart => exact ⟨0, Nat.zero_le _, rfl, HJ1, Kp.refl _, Nat.le_refl _⟩
    case round =>
      clear HJ1
      obtain ⟨k, hk, rfl, hJ1, hK, hsz⟩ := hrel
      by_cases hlt : k < L.length
      · have hlt' : (k : Int) < (L.length : Int) := by omega
        obtain ⟨c0, c1, c2⟩ := (HR.out.same (hK.out N (.inr rfl))).cell hlt
        obtain ⟨t1, t2⟩ := take_pre hlt
        have HT : Hid (L.take k ++ [L.getD k (0, 0, 0)] = L.take (k + 1)) := t2.symm
        have HT1 := hid0 t1
        have HP1 := hid0 (List.take_prefix (k + 1) L)
        generalize L.getD k (0, 0, 0) = x at *
        obtain ⟨xa, xo, xf⟩ := x
        dsimp only at c0 c1 c2
        clear t1 t2
        have GA := (Gr.refl wr).alloc (.cells #[.int .u32 xa, .int .u32 xo, .int .u32 xf] 32)
        have hJ2 := hJ.gr hJ1.out (show Gr wr _ from GA)
        have hps2 : ∀ b, (p b ∨ b = N) → b < (wr.alloc (.cells #[.int .u32 xa, .int .u32 xo, .int .u32 xf] 32)).heap.size := fun b hb => by
          have := hps1 b hb
          rw [World.size_alloc]
          omega
        have hK2 := hid0 (hK.out.t (Kp.gr (fun b hb => Nat.lt_of_lt_of_le (hps1 b hb) hsz) GA))
        have hy := HY.out (fun b => p b ∨ b = N) (L.take k) (xa, xo, xf) (wr.alloc (.cells #[.int .u32 xa, .int .u32 xo, .int .u32 xf] 32)) (fun b hb => .inl (hp b hb)) hps2 hJ2 (by rw [World.size_alloc]; omega) HT1.out
        have hsz2 : w1.heap.size ≤ (wr.alloc (.cells #[.int .u32 xa, .int .u32 xo, .int .u32 xf] 32)).heap.size := by rw [World.size_alloc]; omega
        rw [HT.out] at hy
        have hn0 := n - 1
        obtain ⟨fn, tmps, assign, body, hy, hRd⟩ := yield_depth (n - 1) hy
        clear HT1 HT hJ2 hJ1 hK GA hps2
        dsimp only [dE] at hy
        gi_wp2
        refine hRd.mono ?_
        clear hy hRd c0 c1 c2
        rintro e W3 (⟨rfl, hJ3, hk3, hf3⟩ | ⟨rfl, hJx3, hf3⟩)
        · replace hJ3 := hid0 hJ3
          have hK3 := hid0 (hK2.out.t hk3)
          have hs3 := hf3.size
          clear hk3 hf3 hK2
          gi_wp2
          go_roundw
          case rel => exact ⟨k + 1, by omega, by go_num, hJ3, hK3, by omega⟩
          case measure => simp [intOf]; omega
        · replace hJx3 := hid0 hJx3
          clear hf3
          gi_wp2
          refine bodyPost_ret (results_none rfl _ _ _) rfl ?_
          exact ⟨⟨_, rfl⟩, .inr ⟨_, HP1.out, hJx3.out⟩⟩
      · have hlt' : ¬ (k : Int) < (L.length : Int) := by omega
        have ek : k = L.length := by omega
        have hJE : J (fun k => p k ∨ k = N) L wr := by
          have := hJ1.out
          rw [ek, List.take_length] at this
          exact this
        replace hJE := hid0 hJE
        clear hJ1
        gi_wp2
        go_end0
        exact ⟨⟨_, rfl⟩, .inl ⟨_, hJE.out, fun _ h => .inl h⟩⟩
theorem all1_seq (n b : Nat) (hn : 1 ≤ n) (v : Value) (L : List Du) (hL : L.length ≤ 4096) (w : World) (hb : Bk w b 23 [v]) (p0 : Nat → Prop) (hS : ∀ W, Gr w W → Calls Try.prog 35 #[v] W (SortedR W L)) :
    SeqO n 34 #[.pointer (some ⟨b, 0, none⟩)] dE L p0 w := fun l J Jx p W gW hp hpb hJ _ hY h0 =>
  all1_in n hn l b v L hL J Jx p0 p W (hb.gr gW) hp hpb hJ (hS W gW) hY h0
theorem all_any (v : Option Addr) (w : World) : Calls Try.prog 17 #[.pointer v] w fun e w' => ∃ b, e = .returned (.func (.func 34) #[] #[.pointer (some ⟨b, 0, none⟩)]) ∧ w.heap.size ≤ b ∧ Bk w' b 23 [.pointer v] ∧ Gr w w' := by
  have k := hid0 (Bk.new w 23 [.pointer v])
  have g := hid0 ((Gr.refl w).alloc (.cells #[.pointer v] 23))
  go_enter Try.func17, Try.ntmps17
  go_wp2
  go_ret
  exact ⟨_, rfl, Nat.le_refl _, k.out, g.out⟩
end Go.Proofs.Ytaapdkjmlplhgaa
