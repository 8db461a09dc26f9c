/- Ranges over functions that may stand in rounds of one another, and whose rounds may hand on to a further one's: the contract of an iterator and the law of the loop. The contract's word J is over a set of blocks: they are the iterator's, and a round leaves them. -/
import Derived.RangeFuncNested
import Derived.RangeFuncBound
import Derived.RangeFuncCalls
import Derived.RangeFuncLeaves
import Derived.Shelf.Abstract
import Derived.Shelf.RegionOpen
import Derived.OwnWalkIn
import Derived.TacticsInMore
import Derived.LoopNIn
import Derived.LoopIn
import Derived.Test.YtaapdkjmlplhgaaBa
namespace Go.Proofs.Ytaapdkjmlplhgaa
open Go.RowKit Go.Shelf

theorem wide_fn (k : Nat) : Fence.wide.fn k = True := rfl
/-- What a round keeps: the blocks of a set. -/
def Kp (p : Nat → Prop) (W W' : World) : Prop := ∀ b, p b → W'.heap[b]? = W.heap[b]?
theorem Kp.refl {p : Nat → Prop} (W : World) : Kp p W W := fun _ _ => rfl
theorem Kp.t {p : Nat → Prop} {A B C : World} (h : Kp p A B) (k : Kp p B C) : Kp p A C := fun b hb => (k b hb).trans (h b hb)
theorem Kp.sub {p q : Nat → Prop} {A B : World} (h : Kp p A B) (k : ∀ b, q b → p b) : Kp q A B := fun b hb => h b (k b hb)
theorem Kp.gr {p : Nat → Prop} {W W' : World} (hp : ∀ b, p b → b < W.heap.size) (h : Gr W W') : Kp p W W' := fun b hb => h.below.block b (hp b hb)
theorem Kp.set {p : Nat → Prop} {W : World} {a : Addr} (hp : ¬ p a.block) (v : Value) : Kp p W (W.setCell a v) := fun _ hb => Below.heap_setCell _ _ _ _ (fun e => hp (e ▸ hb))
theorem Gr.from {W W' : World} (h : Gr W W') (B : Nat) : KeepsFrom B W W' := (KeepsOthers.of_grownBy h.grownBy (fun _ _ e => by cases e)).from B
theorem keepsFrom_mono {B C : Nat} {W W' : World} (h : KeepsFrom B W W') (hb : B ≤ C) : KeepsFrom C W W' := ⟨h.size, fun k o hk h0 ho => h.same k o (Nat.le_trans hb hk) h0 ho⟩

/-- The word of whoever is told: it abides what the iterator lays and the records that it turns. -/
structure Con {α : Type} (B : Nat) (J : (Nat → Prop) → List α → World → Prop) : Prop where
  own : ∀ p s A A' row, J p s A → A.grownBy A' row → (∀ r, row = some r → B ≤ r ∧ ∃ o : Obj, A.heap[r]? = some o ∧ o.isCells = false) → J p s A'
  new : ∀ p s A b, J p s A → A.heap.size ≤ b → J (fun k => p k ∨ k = b) s A
  sub : ∀ p q s A, J q s A → (∀ b, p b → q b) → J p s A
theorem Con.gr {α : Type} {B : Nat} {J : (Nat → Prop) → List α → World → Prop} (h : Con B J) {p : Nat → Prop} {s : List α} {A A' : World} (k : J p s A) (g : Gr A A') : J p s A' := h.own p s A A' none k g.grownBy (fun r e => by cases e)
theorem Con.ownFrom {α : Type} {B : Nat} {J : (Nat → Prop) → List α → World → Prop} (h : Con B J) (p : Nat → Prop) : OwnFrom B (J p) := fun s A A' row hs hg hr => h.own p s A A' row hs hg hr
theorem Con.mono {α : Type} {B C : Nat} {J : (Nat → Prop) → List α → World → Prop} (h : Con B J) (hb : B ≤ C) : Con C J :=
  ⟨fun p s A A' row hs hg hr => h.own p s A A' row hs hg (fun r e => ⟨Nat.le_trans hb (hr r e).1, (hr r e).2⟩), h.new, h.sub⟩
theorem ownFrom_mono {β : Type} {B C : Nat} {I : β → World → Prop} (h : OwnFrom B I) (hb : B ≤ C) : OwnFrom C I := fun s A A' row hs hg hr => h s A A' row hs hg (fun r e => ⟨Nat.le_trans hb (hr r e).1, (hr r e).2⟩)

/-- How a round ends, for the iterator that starts at block B. -/
def RoundEnds {α : Type} (B : Nat) (J : (Nat → Prop) → List α → World → Prop) (Jx : List α → World → Prop) (p : Nat → Prop) (xs : List α) (W : World) (e : Ending) (W' : World) : Prop :=
  (e = .returned (.bool true) ∧ J p xs W' ∧ Kp p W W' ∧ KeepsFrom B W W') ∨ (e = .returned (.bool false) ∧ Jx xs W' ∧ KeepsFrom B W W')

/-- The contract of an iterator that tells the list L. -/
def SeqO {α : Type} (n gf : Nat) (lb : Array Value) (encs : α → Array Value) (L : List α) (p0 : Nat → Prop) (w : World) : Prop :=
  ∀ (l : Nat) (J : (Nat → Prop) → List α → World → Prop) (Jx : List α → World → Prop) (p : Nat → Prop) (W : World),
    Gr w W → (∀ b, p0 b → p b) → (∀ b, p b → b < W.heap.size) → Con W.heap.size J → OwnFrom W.heap.size Jx →
    (∀ p pre x W1, (∀ b, p0 b → p b) → (∀ b, p b → b < W1.heap.size) → J p pre W1 → W.heap.size ≤ W1.heap.size → pre ++ [x] <+: L → YieldAt Fence.wide 0 Try.prog l (encs x) W1 (RoundEnds W.heap.size J Jx p (pre ++ [x]) W1)) →
    J p [] W →
    CallsIn Fence.wide n Try.prog gf (#[.func (.yield l) #[] #[]] ++ lb) W fun e W' => (∃ v, e = .returned v) ∧
      ((∃ q, J q L W' ∧ ∀ b, p b → q b) ∨ (∃ pre, pre <+: L ∧ Jx pre W'))

theorem yield_depth {m : Nat} (m' : Nat) {P : Program} {l : Nat} {args : Array Value} {W : World} {R : Ending → World → Prop} (h : YieldAt Fence.wide m P l args W R) : YieldAt Fence.wide m' P l args W R := by
  obtain ⟨fn, tmps, assign, body, hy, hR⟩ := h
  exact ⟨fn, tmps, assign, body, hy, hR.1, fun c cs _ => hR.2 c cs (room_wide _)⟩
theorem yield_round {m l0 : Nat} {P : Program} {l : Nat} {args : Array Value} {W : World} {R : Ending → World → Prop} (h : YieldAt Fence.wide m P l args W R) : YieldAt (Fence.wide.inRound l0) m P l args W R := h

/-- How a body is left: it goes on, or it jumps. -/
def bodyEnds {α : Type} (B : Nat) (p : Nat → Prop) (I : (Nat → Prop) → List α → World → Prop) (Ix : Code → List α → World → Prop) (xs : List α) (W : World) : Exit → Act → World → Prop
  | .normal, _, W' => KeepsFrom B W W' ∧ Kp p W W' ∧ I p xs W'
  | .ret, _, W' => KeepsFrom B W W' ∧ Ix .ret xs W'
  | .exit id, _, W' => KeepsFrom B W W' ∧ Ix (.exit id) xs W'
  | .goto t, _, W' => KeepsFrom B W W' ∧ Ix (.goto t) xs W'
  | .panic _, _, _ => False
  | .outgrown, _, _ => False

/-- Everything that is no cells and lies at or beyond B, the record of the loop aside. -/
def KeepsBut (B l : Nat) (W W' : World) : Prop := W.heap.size ≤ W'.heap.size ∧ ∀ (k : Nat) (o : Obj), B ≤ k → k ≠ l → W.heap[k]? = some o → o.isCells = false → W'.heap[k]? = some o

section one
variable {α : Type} {n : Nat} {ps : Array Tmp} {assign body : Code} {tm : Array Value} {fn D B : Nat} {encs : α → Array Value}

theorem one_round (l : Nat) (hB : B ≤ l) (I : (Nat → Prop) → List α → World → Prop) (Ix : Code → List α → World → Prop) (hI : ∀ p, OwnFrom B (I p)) (hIx : ∀ c, OwnFrom B (Ix c)) (hps : ∀ x, (encs x).size = ps.size)
    (Ax : α → Act → World → Prop) (hAx : ∀ x a', OwnFrom B (fun (_ : Unit) W => Ax x a' W)) (p : Nat → Prop) (pre : List α) (x : α) (W : World)
    (hl : W.heap[l]? = some (.loop { state := .ready, pending := none, fn := fn, tmps := tm, params := ps, assign := assign, body := body, defers := D }))
    (hassign : ∀ (K : Act → World → Prop), (∀ a' W', KeepsFrom B W W' → Kp p W W' → I p pre W' → Ax x a' W' → K a' W') →
      assign.wpIn (Fence.wide.inRound l) n Try.prog (Exit.then K (fun _ _ _ => False)) { tmps := (ps.zip (encs x)).foldl (fun t (q, v) => t.setIfInBounds q v) tm, defers := [] } W)
    (hbody : ∀ (a' : Act) (W' : World), W.heap.size ≤ W'.heap.size → (∃ r, W'.heap[l]? = some (.loop r)) → I p pre W' → Ax x a' W' → body.wpIn (Fence.wide.inRound l) n Try.prog (bodyEnds B p I Ix (pre ++ [x]) W') a' W') :
    YieldAt Fence.wide n Try.prog l (encs x) W fun e W' =>
      (e = .returned (.bool true) ∧ I p (pre ++ [x]) W' ∧ Kp p W W' ∧ KeepsBut B l W W' ∧ W'.heap[l]? = W.heap[l]?) ∨
      (e = .returned (.bool false) ∧ KeepsBut B l W W' ∧ ∃ c, Ix c (pre ++ [x]) W' ∧ W'.heap[l]? = some (.loop { state := .done, pending := some c, fn := fn, tmps := tm, params := ps, assign := assign, body := body, defers := D })) := by
  refine ⟨fn, _, assign, body, run_yield hl (hps x), roundIn_of_wpIn trivial (hassign _ ?_)⟩
  intro a' W1 k1 kp1 i1 ax
  have l1 := k1.same _ _ hB hl rfl
  have lt1 := (Array.getElem?_eq_some_iff.1 l1).1
  refine ⟨_, run_beginRound l1 rfl, ?_⟩
  generalize hW2 : W1.putObj l _ = W2
  have l2 : W2.heap[l]? = some (.loop { state := .busy, pending := none, fn := fn, tmps := tm, params := ps, assign := assign, body := body, defers := D }) := by rw [← hW2]; exact World.putObj_heap_same lt1
  have o2 : ∀ k, k ≠ l → W2.heap[k]? = W1.heap[k]? := fun k hk => by rw [← hW2]; exact World.putObj_heap_other hk
  have s2 : W2.heap.size = W1.heap.size := by rw [← hW2]; simp
  have i2 : I p pre W2 := by rw [← hW2]; exact (hI p).putObj _ i1 hB l1 rfl
  have x2 : Ax x a' W2 := by rw [← hW2]; exact (hAx x a').putObj (s := ()) _ ax hB l1 rfl
  refine wpIn_mono (hbody a' W2 (by have := k1.size; omega) ⟨_, l2⟩ i2 x2) ?_
  have fin : ∀ (jump : Option Code) (W3 : World), KeepsFrom B W2 W3 → ∃ W4, (Instr.endRound l jump).run Try.prog W3 = .ok (.bool jump.isNone) W4 ∧
      W4.heap[l]? = some (.loop { state := if jump.isNone then .ready else .done, pending := jump, fn := fn, tmps := tm, params := ps, assign := assign, body := body, defers := D }) ∧
      (∀ (β : Type) (R : β → World → Prop) s, OwnFrom B R → R s W3 → R s W4) ∧ (∀ k, k ≠ l → W4.heap[k]? = W3.heap[k]?) ∧ KeepsBut B l W W4 := fun jump W3 k3 => by
    have l3 := k3.same _ _ hB l2 rfl
    refine ⟨_, run_endRound jump l3, World.putObj_heap_same (Array.getElem?_eq_some_iff.1 l3).1, fun β R s hR hr => hR.putObj _ hr hB l3 rfl, fun k hk => World.putObj_heap_other hk, ?_, ?_⟩
    · have h1 := k1.size
      have h3 := k3.size
      simp; omega
    · intro k o hk hne h0 ho
      rw [World.putObj_heap_other hne]
      exact k3.same k o hk ((o2 k hne).trans (k1.same k o hk h0 ho)) ho
  rintro e a3 W3 hp
  cases e with
  | normal =>
    obtain ⟨k3, kp3, i3⟩ := hp
    obtain ⟨W4, hr, l4, ow, o4, kb⟩ := fin none W3 k3
    refine ⟨_, W4, hr, .inl ⟨rfl, ow _ (I p) _ (hI p) i3, fun b hb => ?_, kb, l4.trans hl.symm⟩⟩
    by_cases hbl : b = l
    · rw [hbl]; exact l4.trans hl.symm
    · rw [o4 b hbl, kp3 b hb, o2 b hbl, kp1 b hb]
  | ret =>
    obtain ⟨k3, i3⟩ := hp
    obtain ⟨W4, hr, l4, ow, o4, kb⟩ := fin (some .ret) W3 k3
    exact ⟨_, W4, hr, .inr ⟨rfl, kb, .ret, ow _ _ _ (hIx _) i3, l4⟩⟩
  | exit id =>
    obtain ⟨k3, i3⟩ := hp
    obtain ⟨W4, hr, l4, ow, o4, kb⟩ := fin (some (.exit id)) W3 k3
    exact ⟨_, W4, hr, .inr ⟨rfl, kb, .exit id, ow _ _ _ (hIx _) i3, l4⟩⟩
  | goto t =>
    obtain ⟨k3, i3⟩ := hp
    obtain ⟨W4, hr, l4, ow, o4, kb⟩ := fin (some (.goto t)) W3 k3
    exact ⟨_, W4, hr, .inr ⟨rfl, kb, .goto t, ow _ _ _ (hIx _) i3, l4⟩⟩
  | panic ch => exact hp.elim
  | outgrown => exact hp.elim
end one

section law
variable {α : Type} {n : Nat} {g : Operand} {ps : Array Tmp} {assign body : Code} {Q : Exit → Act → World → Prop} {a : Act} {w : World} {gf : Nat} {lb : Array Value} {encs : α → Array Value} {L : List α} {p0 : Nat → Prop}

/-- A round's parts, as a loop that begins at w owes them. -/
structure Owes (n : Nat) (w : World) (tm : Array Value) (ps : Array Tmp) (assign body : Code) (encs : α → Array Value) (L : List α) (p0 : Nat → Prop) (I : (Nat → Prop) → List α → World → Prop) (Ix : Code → List α → World → Prop) (Ax : α → Act → World → Prop) : Prop where
  con : Con w.heap.size I
  conx : ∀ c, OwnFrom w.heap.size (Ix c)
  conA : ∀ x a', OwnFrom w.heap.size (fun (_ : Unit) W => Ax x a' W)
  many : ∀ x, (encs x).size = ps.size
  head : ∀ (l : Nat) (p : Nat → Prop) (pre : List α) (x : α) (W : World) (K : Act → World → Prop), (∀ b, p0 b → p b) → (∀ b, p b → b < W.heap.size) → I p pre W → w.heap.size ≤ W.heap.size → (∀ a' W', KeepsFrom w.heap.size W W' → Kp p W W' → I p pre W' → Ax x a' W' → K a' W') →
    assign.wpIn (Fence.wide.inRound l) n Try.prog (Exit.then K (fun _ _ _ => False)) { tmps := (ps.zip (encs x)).foldl (fun t (q, v) => t.setIfInBounds q v) tm, defers := [] } W
  tail : ∀ (l : Nat) (p : Nat → Prop) (pre : List α) (x : α) (a' : Act) (W : World), w.heap.size ≤ l → (∃ r, W.heap[l]? = some (.loop r)) → (∀ b, p0 b → p b) → (∀ b, p b → b < W.heap.size) → I p pre W → Ax x a' W → pre ++ [x] <+: L →
    body.wpIn (Fence.wide.inRound l) n Try.prog (bodyEnds w.heap.size p I Ix (pre ++ [x]) W) a' W

/-- The loop that stands in no round. -/
theorem range_out {I : (Nat → Prop) → List α → World → Prop} {Ix : Code → List α → World → Prop} {Ax : α → Act → World → Prop}
    (hg : a.eval g = .func (.func gf) #[] lb) (eg : ∀ args w, (callFunc gf args).run Try.prog w = .ok (.enter gf args) w)
    (hseq : SeqO (n - 1) gf lb encs L p0 w) (O : Owes (n - 1 - 1) w a.tmps ps assign body encs L p0 I Ix Ax)
    (p : Nat → Prop) (hp0 : ∀ b, p0 b → p b) (hpw : ∀ b, p b → b < w.heap.size) (h0 : I p [] w)
    (hdone : ∀ (D : Nat) (q : Nat → Prop) (W : World), w.heap.size ≤ D → I q L W → (∀ b, p b → q b) → W.heap[D]? = some (.deferred (some [])) → Q .normal { a with defers := { target := .collected D, args := #[] } :: a.defers } W)
    (hstop : ∀ (D : Nat) (c : Code) (pre : List α) (W : World), w.heap.size ≤ D → pre <+: L → Ix c pre W → W.heap[D]? = some (.deferred (some [])) → c.wpIn Fence.wide n Try.prog Q { a with defers := { target := .collected D, args := #[] } :: a.defers } W) :
    (Code.rangeFunc g ps assign body).wpIn Fence.wide n Try.prog Q a w := by
  refine wpIn_rangeFunc ?_
  intro fn _
  generalize hW1 : (w.alloc (.deferred (some []))).alloc (.loop { state := .ready, pending := none, fn := fn, tmps := a.tmps, params := ps, assign := assign, body := body, defers := w.heap.size }) = W1
  have g1 : Gr w W1 := by rw [← hW1]; exact ((Gr.refl _).alloc _).alloc _
  have s1 : W1.heap.size = w.heap.size + 2 := by rw [← hW1]; simp
  have d1 : W1.heap[w.heap.size]? = some (.deferred (some [])) := by rw [← hW1]; exact (Below.heap_alloc _ _ _ (by simp)).trans (World.alloc_heap_new w _)
  have l1 : W1.heap[w.heap.size + 1]? = some (.loop { state := .ready, pending := none, fn := fn, tmps := a.tmps, params := ps, assign := assign, body := body, defers := w.heap.size }) := by
    rw [← hW1]; have := World.alloc_heap_new (w.alloc (.deferred (some []))) (.loop { state := .ready, pending := none, fn := fn, tmps := a.tmps, params := ps, assign := assign, body := body, defers := w.heap.size }); rwa [World.size_alloc] at this
  refine ⟨w.heap.size + 1, [{ target := .collected w.heap.size, args := #[] }], W1, { target := .fn (.func gf) lb, args := #[.func (.yield (w.heap.size + 1)) #[] #[]] }, W1, gf,
    #[.func (.yield (w.heap.size + 1)) #[] #[]] ++ lb, W1, ?_, ?_, fun _ _ => trivial, ?_, fun h => (by cases h), ?_⟩
  · rw [← hW1]; exact run_enterLoop_outer _ _ _ _ _
  · simp only [resolve, hg]
    simp [go_sem]
  · simp [invoke, go_sem, eg]
  · have far : ∀ {A A' : World} {row : Option Nat} {P : Nat → Prop} {k : Nat}, A.grownBy A' row → (∀ r, row = some r → W1.heap.size ≤ r ∧ P r) → k < A.heap.size → k < w.heap.size + 2 → A'.heap[k]? = A.heap[k]? := fun hg hr hk h2 => hg.block _ hk (fun e => by have := (hr _ e.symm).1; omega)
    refine (hseq (w.heap.size + 1)
      (fun p pre W => I p pre W ∧ W.heap[w.heap.size + 1]? = W1.heap[w.heap.size + 1]? ∧ W.heap[w.heap.size]? = some (.deferred (some [])))
      (fun pre W => ∃ c, Ix c pre W ∧ W.heap[w.heap.size + 1]? = some (.loop { state := .done, pending := some c, fn := fn, tmps := a.tmps, params := ps, assign := assign, body := body, defers := w.heap.size }) ∧ W.heap[w.heap.size]? = some (.deferred (some [])))
      p W1 g1 hp0 (fun b hb => Nat.lt_of_lt_of_le (hpw b hb) g1.size) ?_ ?_ ?_ ⟨O.con.gr h0 g1, rfl, d1⟩).mono ?_
    · refine ⟨fun p s A A' row hs hg hr => ⟨O.con.own p s A A' row hs.1 hg (fun r e => ⟨by have := (hr r e).1; omega, (hr r e).2⟩), ?_, ?_⟩, fun p s A b hs hb => ⟨O.con.new p s A b hs.1 hb, hs.2⟩, fun p q s A hs hb => ⟨O.con.sub p q s A hs.1 hb, hs.2⟩⟩
      · have hk := hs.2.1.trans l1
        exact (far hg hr (Array.getElem?_eq_some_iff.1 hk).1 (by omega)).trans hs.2.1
      · exact (far hg hr (Array.getElem?_eq_some_iff.1 hs.2.2).1 (by omega)).trans hs.2.2
    · rintro s A A' row ⟨c, h1, h2, h3⟩ hg hr
      exact ⟨c, O.conx c s A A' row h1 hg (fun r e => ⟨by have := (hr r e).1; omega, (hr r e).2⟩), (far hg hr (Array.getElem?_eq_some_iff.1 h2).1 (by omega)).trans h2, (far hg hr (Array.getElem?_eq_some_iff.1 h3).1 (by omega)).trans h3⟩
    · rintro p pre x W hp hpb ⟨hi, hl, hd⟩ hsz hpre
      refine YieldAt.mono (yield_depth 0 (one_round (fn := fn) (D := w.heap.size) (w.heap.size + 1) (by omega) I Ix (fun p => O.con.ownFrom p) O.conx O.many Ax O.conA p pre x W (hl.trans l1) (fun K hK => O.head _ p pre x W K hp hpb hi (by omega) hK)
        (fun a' W2 hs2 hr i2 x2 => O.tail _ p pre x a' W2 (by omega) hr hp (fun b hb => Nat.lt_of_lt_of_le (hpb b hb) hs2) i2 x2 hpre))) ?_
      rintro e W' (⟨rfl, hi', kp', kb, hl'⟩ | ⟨rfl, kb, c, hx, hl'⟩)
      · exact .inl ⟨rfl, ⟨hi', hl'.trans hl, kb.2 _ _ (Nat.le_refl _) (by omega) hd rfl⟩, kp', kb.1, fun k o hk h0 ho => kb.2 k o (by omega) (by omega) h0 ho⟩
      · exact .inr ⟨rfl, ⟨c, hx, hl', kb.2 _ _ (Nat.le_refl _) (by omega) hd rfl⟩, kb.1, fun k o hk h0 ho => kb.2 k o (by omega) (by omega) h0 ho⟩
    · rintro e W2 ⟨⟨v, rfl⟩, (⟨q, ⟨hi, hl, hd⟩, hq⟩ | ⟨pre, hpre, c, hi, hl, hd⟩)⟩
      · have hl' := hl.trans l1
        exact ⟨none, _, run_endLoop hl' (by simp), hdone _ q _ (Nat.le_refl _) ((O.con.ownFrom q).putObj _ hi (by omega) hl' rfl) hq ((World.putObj_heap_other (by omega)).trans hd)⟩
      · exact ⟨some c, _, run_endLoop hl (by simp), hstop _ c pre _ (Nat.le_refl _) hpre ((O.conx c).putObj _ hi (by omega) hl rfl) ((World.putObj_heap_other (by omega)).trans hd)⟩

/-- The loop that stands in a round of the loop whose record is l0. -/
theorem range_in {I : (Nat → Prop) → List α → World → Prop} {Ix : Code → List α → World → Prop} {Ax : α → Act → World → Prop} {l0 : Nat} {r0 : Loop} (hl0 : w.heap[l0]? = some (.loop r0))
    (hg : a.eval g = .func (.func gf) #[] lb) (eg : ∀ args w, (callFunc gf args).run Try.prog w = .ok (.enter gf args) w)
    (hseq : SeqO (n - 1) gf lb encs L p0 w) (O : Owes (n - 1 - 1) w a.tmps ps assign body encs L p0 I Ix Ax)
    (p : Nat → Prop) (hp0 : ∀ b, p0 b → p b) (hpw : ∀ b, p b → b < w.heap.size) (h0 : I p [] w)
    (hdone : ∀ (q : Nat → Prop) (W : World), I q L W → (∀ b, p b → q b) → Q .normal a W)
    (hstop : ∀ (c : Code) (pre : List α) (W : World), pre <+: L → Ix c pre W → c.wpIn (Fence.wide.inRound l0) n Try.prog Q a W) :
    (Code.rangeFunc g ps assign body).wpIn (Fence.wide.inRound l0) n Try.prog Q a w := by
  refine wpIn_rangeFunc ?_
  intro fn _
  generalize hW1 : w.alloc (.loop { state := .ready, pending := none, fn := fn, tmps := a.tmps, params := ps, assign := assign, body := body, defers := r0.defers }) = W1
  have g1 : Gr w W1 := by rw [← hW1]; exact (Gr.refl _).alloc _
  have s1 : W1.heap.size = w.heap.size + 1 := by rw [← hW1]; simp
  have l1 : W1.heap[w.heap.size]? = some (.loop { state := .ready, pending := none, fn := fn, tmps := a.tmps, params := ps, assign := assign, body := body, defers := r0.defers }) := by
    rw [← hW1]; exact World.alloc_heap_new w _
  refine ⟨w.heap.size, [], W1, { target := .fn (.func gf) lb, args := #[.func (.yield w.heap.size) #[] #[]] }, W1, gf,
    #[.func (.yield w.heap.size) #[] #[]] ++ lb, W1, ?_, ?_, fun _ _ => trivial, ?_, fun h => (by cases h), ?_⟩
  · rw [← hW1]; exact run_enterLoop_inner hl0 _ _ _ _ _
  · simp only [resolve, hg]
    simp [go_sem]
  · simp [invoke, go_sem, eg]
  · have far : ∀ {A A' : World} {row : Option Nat} {P : Nat → Prop} {k : Nat}, A.grownBy A' row → (∀ r, row = some r → W1.heap.size ≤ r ∧ P r) → k < A.heap.size → k < w.heap.size + 1 → A'.heap[k]? = A.heap[k]? := fun hg hr hk h2 => hg.block _ hk (fun e => by have := (hr _ e.symm).1; omega)
    refine CallsIn.inRound l0 ((hseq w.heap.size
      (fun p pre W => I p pre W ∧ W.heap[w.heap.size]? = W1.heap[w.heap.size]?)
      (fun pre W => ∃ c, Ix c pre W ∧ W.heap[w.heap.size]? = some (.loop { state := .done, pending := some c, fn := fn, tmps := a.tmps, params := ps, assign := assign, body := body, defers := r0.defers }))
      p W1 g1 hp0 (fun b hb => Nat.lt_of_lt_of_le (hpw b hb) g1.size) ?_ ?_ ?_ ⟨O.con.gr h0 g1, rfl⟩).mono ?_)
    · refine ⟨fun p s A A' row hs hg hr => ⟨O.con.own p s A A' row hs.1 hg (fun r e => ⟨by have := (hr r e).1; omega, (hr r e).2⟩), ?_⟩, fun p s A b hs hb => ⟨O.con.new p s A b hs.1 hb, hs.2⟩, fun p q s A hs hb => ⟨O.con.sub p q s A hs.1 hb, hs.2⟩⟩
      have hk := hs.2.trans l1
      exact (far hg hr (Array.getElem?_eq_some_iff.1 hk).1 (by omega)).trans hs.2
    · rintro s A A' row ⟨c, h1, h2⟩ hg hr
      exact ⟨c, O.conx c s A A' row h1 hg (fun r e => ⟨by have := (hr r e).1; omega, (hr r e).2⟩), (far hg hr (Array.getElem?_eq_some_iff.1 h2).1 (by omega)).trans h2⟩
    · rintro p pre x W hp hpb ⟨hi, hl⟩ hsz hpre
      refine YieldAt.mono (yield_depth 0 (one_round (fn := fn) (D := r0.defers) w.heap.size (Nat.le_refl _) I Ix (fun p => O.con.ownFrom p) O.conx O.many Ax O.conA p pre x W (hl.trans l1) (fun K hK => O.head _ p pre x W K hp hpb hi (by omega) hK)
        (fun a' W2 hs2 hr i2 x2 => O.tail _ p pre x a' W2 (Nat.le_refl _) hr hp (fun b hb => Nat.lt_of_lt_of_le (hpb b hb) hs2) i2 x2 hpre))) ?_
      rintro e W' (⟨rfl, hi', kp', kb, hl'⟩ | ⟨rfl, kb, c, hx, hl'⟩)
      · exact .inl ⟨rfl, ⟨hi', hl'.trans hl⟩, kp', kb.1, fun k o hk h0 ho => kb.2 k o (by omega) (by omega) h0 ho⟩
      · exact .inr ⟨rfl, ⟨c, hx, hl'⟩, kb.1, fun k o hk h0 ho => kb.2 k o (by omega) (by omega) h0 ho⟩
    · rintro e W2 ⟨⟨v, rfl⟩, (⟨q, ⟨hi, hl⟩, hq⟩ | ⟨pre, hpre, c, hi, hl⟩)⟩
      · have hl' := hl.trans l1
        exact ⟨none, _, run_endLoop hl' (by simp), hdone q _ ((O.con.ownFrom q).putObj _ hi (Nat.le_refl _) hl' rfl) hq⟩
      · exact ⟨some c, _, run_endLoop hl (by simp), hstop c pre _ hpre ((O.conx c).putObj _ hi (Nat.le_refl _) hl rfl)⟩
end law
end Go.Proofs.Ytaapdkjmlplhgaa
